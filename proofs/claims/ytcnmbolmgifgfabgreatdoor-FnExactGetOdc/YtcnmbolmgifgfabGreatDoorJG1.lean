/- Texts joined: Dig, DigSl, PutBase, FmtPow, FmtArr, FmtBits, FmtInt, DecText, Field, PutOH, CardText, GetCdM, OutOdc, Demand, CardTextI, CardDig, EqZ, HdOf, CutP, RdCard, CatchG, RegU. -/
import Derived.Test.YtcnmbolmgifgfabGreatDoorCom
import Derived.Lib.ItoaNum
import Derived.Test.YtcnmbolmgifgfabGreatDoorIn
import Derived.Test.YtcnmbolmgifgfabGreatDoorShelf
import Derived.Lib.Repeat
import Derived.Test.YtcnmbolmgifgfabGreatDoorOwn
import Derived.Lib.LaidTab
import Derived.Lib.AppendIntMem
import Derived.Lib.ItoaLen
import Derived.Test.YtcnmbolmgifgfabGreatDoorCardO
import Derived.Test.YtcnmbolmgifgfabGreatDoorRegSl
import Derived.Deep.DeepCutAuto
import Derived.OwnWalk
import Derived.Test.YtcnmbolmgifgfabGreatDoorGetOH
import Derived.Test.YtcnmbolmgifgfabGreatDoorCut
import Derived.Test.YtcnmbolmgifgfabGreatDoorOutM
import Derived.WalkSmall
import Derived.WalkLawsBesides
import Derived.Laws.StructEq
import Derived.Test.YtcnmbolmgifgfabGreatDoorClone
import Derived.Defers
import Derived.Recover
import Derived.Test.YtcnmbolmgifgfabGreatDoorRegInv
/- Plain mathematics of a number's digits in a base; nothing of the program is said here. -/
namespace Go.Proofs.YtcnmbolmgifgfabGreatDoor

def dch (d : Nat) : UInt8 := if d < 10 then UInt8.ofNat (48 + d) else UInt8.ofNat (87 + d)
/-- The digits of u in base b, none for 0. -/
def digs (b u : Nat) : List UInt8 :=
  if _h : u = 0 ∨ b < 2 then [] else digs b (u / b) ++ [dch (u % b)]
termination_by u
decreasing_by exact Nat.div_lt_self (by omega) (by omega)
def numeral (b u : Nat) : List UInt8 := if u = 0 then [48] else digs b u

theorem digs_zero (b : Nat) : digs b 0 = [] := by rw [digs, dif_pos (.inl rfl)]
theorem digs_pos {b u : Nat} (hb : 2 ≤ b) (hu : 0 < u) : digs b u = digs b (u / b) ++ [dch (u % b)] := by rw [digs, dif_neg (by omega)]
theorem digs_len {b : Nat} (hb : 2 ≤ b) : ∀ (k u : Nat), u < b ^ k → (digs b u).length ≤ k
  | 0, u, h => by have : u = 0 := by simpa using h
                  subst this; simp [digs_zero]
  | k + 1, u, h => by
    by_cases hu : u = 0
    · subst hu; simp [digs_zero]
    · rw [digs_pos hb (by omega)]
      have := digs_len hb k (u / b) (by rw [Nat.div_lt_iff_lt_mul (by omega)]; rw [Nat.pow_succ] at h; exact h)
      simp; omega
theorem digs_ne {b u : Nat} (hb : 2 ≤ b) (hu : 0 < u) : digs b u ≠ [] := by rw [digs_pos hb hu]; simp
theorem decDigits_eq (u : Nat) : Lib.decDigits u = numeral 10 u := by
  have key : ∀ n u, u ≤ n → 0 < u → Lib.decDigits u = digs 10 u := by
    intro n
    induction n with
    | zero => intro u h h'; omega
    | succ n ih =>
      intro u h h'
      rw [Lib.decDigits, digs_pos (by omega) h']
      by_cases hu : u < 10
      · have e : u / 10 = 0 := by omega
        have e2 : u % 10 = u := by omega
        rw [dif_pos hu, e, e2, digs_zero, dch, if_pos hu]; rfl
      · rw [dif_neg hu, ih (u / 10) (by omega) (by omega), dch, if_pos (by omega)]
  by_cases hu : u = 0
  · subst hu; rw [Lib.decDigits]; rfl
  · rw [numeral, if_neg hu]; exact key u u (Nat.le_refl _) (by omega)

theorem hexAt (d : Nat) (h : d < 16) : (⟨#[48, 49, 50, 51, 52, 53, 54, 55, 56, 57, 97, 98, 99, 100, 101, 102]⟩ : ByteArray).extract d (d + 1) = ⟨#[dch d]⟩ := by
  match d, h with
  | 0, _ => rfl
  | 1, _ => rfl
  | 2, _ => rfl
  | 3, _ => rfl
  | 4, _ => rfl
  | 5, _ => rfl
  | 6, _ => rfl
  | 7, _ => rfl
  | 8, _ => rfl
  | 9, _ => rfl
  | 10, _ => rfl
  | 11, _ => rfl
  | 12, _ => rfl
  | 13, _ => rfl
  | 14, _ => rfl
  | 15, _ => rfl
  | n + 16, h => exact absurd h (by omega)
theorem decAt (d : Nat) (h : d < 10) : (⟨#[48, 49, 50, 51, 52, 53, 54, 55, 56, 57]⟩ : ByteArray).extract d (d + 1) = ⟨#[dch d]⟩ := by
  match d, h with
  | 0, _ => rfl
  | 1, _ => rfl
  | 2, _ => rfl
  | 3, _ => rfl
  | 4, _ => rfl
  | 5, _ => rfl
  | 6, _ => rfl
  | 7, _ => rfl
  | 8, _ => rfl
  | 9, _ => rfl
  | n + 10, h => exact absurd h (by omega)
theorem cons_str (c : UInt8) (l : List UInt8) : (⟨#[c]⟩ : ByteArray) ++ ⟨l.toArray⟩ = ⟨(c :: l).toArray⟩ := by
  apply ByteArray.ext; simp
/-- m is what is left of the number u, l the digits made so far. -/
def DigFrom (b u m : Nat) (l : List UInt8) : Prop := digs b u = digs b m ++ l
theorem DigFrom.start (b u : Nat) : DigFrom b u u [] := by simp [DigFrom]
theorem DigFrom.more {b u m : Nat} {l : List UInt8} (hb : 2 ≤ b) (hm : 0 < m) (h : DigFrom b u m l) : DigFrom b u (m / b) (dch (m % b) :: l) := by
  unfold DigFrom at *
  rw [h, digs_pos hb hm]; simp
theorem DigFrom.done {b u : Nat} {l : List UInt8} (h : DigFrom b u 0 l) : l = digs b u := by
  unfold DigFrom at h
  rw [h, digs_zero]; rfl
theorem DigFrom.len {b u m k : Nat} {l : List UInt8} (hb : 2 ≤ b) (h : DigFrom b u m l) (hu : u < b ^ k) : l.length ≤ k := by
  have h1 := digs_len hb k u hu
  unfold DigFrom at h
  rw [h] at h1
  simp at h1; omega
end Go.Proofs.YtcnmbolmgifgfabGreatDoor

/- One digit cut out of the strings of digits, as the program does it. -/
namespace Go.Proofs.YtcnmbolmgifgfabGreatDoor
theorem slice_dec (d : Int) (h0 : 0 ≤ d) (h : d < 10) (w : World) :
    (Instr.slice 9 (.string ⟨#[48, 49, 50, 51, 52, 53, 54, 55, 56, 57]⟩) (some (.int .i64 d)) (some (.int .i64 (d + 1))) none).run Tryz.prog w = .ok (.string ⟨#[dch d.toNat]⟩) w := by
  rw [run_slice_string (P := Tryz.prog) w 9 _ .i64 .i64 d (d + 1) Tryz.underlying9 h0 (by omega) (by show d + 1 ≤ 10; omega),
    show (d + 1).toNat = d.toNat + 1 by omega, decAt d.toNat (by omega)]
theorem slice_hex (d : Int) (h0 : 0 ≤ d) (h : d < 16) (w : World) :
    (Instr.slice 9 (.string ⟨#[48, 49, 50, 51, 52, 53, 54, 55, 56, 57, 97, 98, 99, 100, 101, 102]⟩) (some (.int .i64 d)) (some (.int .i64 (d + 1))) none).run Tryz.prog w = .ok (.string ⟨#[dch d.toNat]⟩) w := by
  rw [run_slice_string (P := Tryz.prog) w 9 _ .i64 .i64 d (d + 1) Tryz.underlying9 h0 (by omega) (by show d + 1 ≤ 16; omega),
    show (d + 1).toNat = d.toNat + 1 by omega, hexAt d.toNat (by omega)]
end Go.Proofs.YtcnmbolmgifgfabGreatDoor

/- Contracts of spec.l01Digits (bases 8, 10, 16), spec.l01Ahead with the sign 0, and strings.Repeat of one byte. -/
namespace Go.Proofs.YtcnmbolmgifgfabGreatDoor
open Go.ChangeShapes Go.WideShapes Go.ChangeAt Go.RowKit

def numv (b : Nat) (n : Int) : ByteArray := ⟨(numeral b n.toNat).toArray⟩
theorem numeral_len {b u k : Nat} (hb : 2 ≤ b) (hk : 1 ≤ k) (hu : u < b ^ k) : (numeral b u).length ≤ k := by
  unfold numeral; split
  · simpa using hk
  · exact digs_len hb k u hu
theorem numeral_pos {b u : Nat} (hb : 2 ≤ b) : 1 ≤ (numeral b u).length := by
  unfold numeral; split
  · simp
  · rw [digs_pos hb (by omega)]; simp
theorem ba_size (l : List UInt8) : (⟨l.toArray⟩ : ByteArray).size = l.length := by simp [ByteArray.size]
theorem ba_app (a b : List UInt8) : (⟨a.toArray⟩ : ByteArray) ++ ⟨b.toArray⟩ = ⟨(a ++ b).toArray⟩ := by apply ByteArray.ext; simp
def strLen : Value → Nat
  | .string s => s.size
  | _ => 0

theorem digits_8 (n : Int) (h0 : 0 ≤ n) (h1 : n ≤ 9007199254740991) (w : World) :
    Calls Tryz.prog 95 #[.int .i64 n, .int .i64 8] w fun e w' => e = .returned (.string (numv 8 n)) ∧ w = w' := by
  by_cases hz : n = 0
  · subst hz
    go_enter Tryz.func95, Tryz.ntmps95
    go_wp2
    go_ret
    exact ⟨rfl, rfl⟩
  · have hzb : (n == 0) = false := by simp [hz]
    go_enter Tryz.func95, Tryz.ntmps95
    go_wp2
    go_loop [0, 5] (fun m o => ∃ (x : Int) (l : List UInt8), 0 ≤ x ∧ x ≤ 9007199254740991 ∧ m = .int .i64 x ∧ o = .string ⟨l.toArray⟩ ∧ DigFrom 8 n.toNat x.toNat l) (fun m _ => (intOf m).toNat)
    case atStart => exact ⟨n, [], by omega, by omega, rfl, rfl, DigFrom.start _ _⟩
    case round =>
      obtain ⟨x, l, hx0, hx1, rfl, rfl, hD⟩ := hrel
      have hlen : l.length ≤ 20 := hD.len (by omega) (by omega)
      have HD := Lib.hid hD
      clear hD
      by_cases hx : x = 0
      · subst hx
        go_wp2
        go_ret
        refine ⟨ret_str ?_, rfl⟩
        rw [HD.out.done, numv, numeral, if_neg (by omega)]
      · have hxb : 0 < x := by omega
        have hsl := slice_hex (x % 8) (by omega) (by omega) w
        have HN := Lib.hid (show DigFrom 8 n.toNat (x / 8).toNat (dch (x % 8).toNat :: l) by
          have := HD.out.more (by omega) (by omega)
          rw [show (x / 8).toNat = x.toNat / 8 by omega, show (x % 8).toNat = x.toNat % 8 by omega]
          exact this)
        clear hx
        go_wp2
        go_round
        case rel => exact ⟨x / 8, _, by omega, by omega, rfl, by rw [cons_str], HN.out⟩
        case measure => simp [intOf]; omega

theorem digits_10 (n : Int) (h0 : 0 ≤ n) (h1 : n ≤ 9007199254740991) (w : World) :
    Calls Tryz.prog 95 #[.int .i64 n, .int .i64 10] w fun e w' => e = .returned (.string (numv 10 n)) ∧ w = w' := by
  by_cases hz : n = 0
  · subst hz
    go_enter Tryz.func95, Tryz.ntmps95
    go_wp2
    go_ret
    exact ⟨rfl, rfl⟩
  · have hzb : (n == 0) = false := by simp [hz]
    go_enter Tryz.func95, Tryz.ntmps95
    go_wp2
    go_loop [0, 5] (fun m o => ∃ (x : Int) (l : List UInt8), 0 ≤ x ∧ x ≤ 9007199254740991 ∧ m = .int .i64 x ∧ o = .string ⟨l.toArray⟩ ∧ DigFrom 10 n.toNat x.toNat l) (fun m _ => (intOf m).toNat)
    case atStart => exact ⟨n, [], by omega, by omega, rfl, rfl, DigFrom.start _ _⟩
    case round =>
      obtain ⟨x, l, hx0, hx1, rfl, rfl, hD⟩ := hrel
      have hlen : l.length ≤ 20 := hD.len (by omega) (by omega)
      have HD := Lib.hid hD
      clear hD
      by_cases hx : x = 0
      · subst hx
        go_wp2
        go_ret
        refine ⟨ret_str ?_, rfl⟩
        rw [HD.out.done, numv, numeral, if_neg (by omega)]
      · have hxb : 0 < x := by omega
        have hsl := slice_hex (x % 10) (by omega) (by omega) w
        have HN := Lib.hid (show DigFrom 10 n.toNat (x / 10).toNat (dch (x % 10).toNat :: l) by
          have := HD.out.more (by omega) (by omega)
          rw [show (x / 10).toNat = x.toNat / 10 by omega, show (x % 10).toNat = x.toNat % 10 by omega]
          exact this)
        clear hx
        go_wp2
        go_round
        case rel => exact ⟨x / 10, _, by omega, by omega, rfl, by rw [cons_str], HN.out⟩
        case measure => simp [intOf]; omega

theorem digits_16 (n : Int) (h0 : 0 ≤ n) (h1 : n ≤ 9007199254740991) (w : World) :
    Calls Tryz.prog 95 #[.int .i64 n, .int .i64 16] w fun e w' => e = .returned (.string (numv 16 n)) ∧ w = w' := by
  by_cases hz : n = 0
  · subst hz
    go_enter Tryz.func95, Tryz.ntmps95
    go_wp2
    go_ret
    exact ⟨rfl, rfl⟩
  · have hzb : (n == 0) = false := by simp [hz]
    go_enter Tryz.func95, Tryz.ntmps95
    go_wp2
    go_loop [0, 5] (fun m o => ∃ (x : Int) (l : List UInt8), 0 ≤ x ∧ x ≤ 9007199254740991 ∧ m = .int .i64 x ∧ o = .string ⟨l.toArray⟩ ∧ DigFrom 16 n.toNat x.toNat l) (fun m _ => (intOf m).toNat)
    case atStart => exact ⟨n, [], by omega, by omega, rfl, rfl, DigFrom.start _ _⟩
    case round =>
      obtain ⟨x, l, hx0, hx1, rfl, rfl, hD⟩ := hrel
      have hlen : l.length ≤ 20 := hD.len (by omega) (by omega)
      have HD := Lib.hid hD
      clear hD
      by_cases hx : x = 0
      · subst hx
        go_wp2
        go_ret
        refine ⟨ret_str ?_, rfl⟩
        rw [HD.out.done, numv, numeral, if_neg (by omega)]
      · have hxb : 0 < x := by omega
        have hsl := slice_hex (x % 16) (by omega) (by omega) w
        have HN := Lib.hid (show DigFrom 16 n.toNat (x / 16).toNat (dch (x % 16).toNat :: l) by
          have := HD.out.more (by omega) (by omega)
          rw [show (x / 16).toNat = x.toNat / 16 by omega, show (x % 16).toNat = x.toNat % 16 by omega]
          exact this)
        clear hx
        go_wp2
        go_round
        case rel => exact ⟨x / 16, _, by omega, by omega, rfl, by rw [cons_str], HN.out⟩
        case measure => simp [intOf]; omega

def ahead (l : List UInt8) (width : Int) : List UInt8 := List.replicate (width.toNat - l.length) 48 ++ l
theorem ahead_any (l : List UInt8) (width : Int) (w : World) (hl : l.length ≤ 40) (hw : width ≤ 40) :
    Calls Tryz.prog 94 #[.string ⟨l.toArray⟩, .int .i64 width, .string ⟨#[48]⟩] w fun e w' => e = .returned (.string ⟨(ahead l width).toArray⟩) ∧ w = w' := by
  go_enter Tryz.func94, Tryz.ntmps94
  go_wp2
  go_loop [0] (fun o => ∃ (r : List UInt8) (k : Nat), o = .string ⟨r.toArray⟩ ∧ Hid (r = List.replicate k 48 ++ l) ∧ r.length ≤ 80 ∧ k ≤ width.toNat - l.length ∧ Hid (r.length = k + l.length)) (fun o => width.toNat - strLen o)
  case atStart => exact ⟨l, 0, rfl, Lib.hid (by simp), by omega, by omega, Lib.hid (by omega)⟩
  case round =>
    obtain ⟨r, k, rfl, HR, hr, hk, HK⟩ := hrel
    by_cases hlt : (r.length : Int) < width
    · go_wp2
      go_round
      case rel => exact ⟨48 :: r, k + 1, by rw [cons_str], Lib.hid (by rw [HR.out]; rfl), by have := HK.out; simp only [List.length_cons]; omega, by have := HK.out; omega, Lib.hid (by have := HK.out; simp only [List.length_cons]; omega)⟩
      case measure => simp [strLen, ba_size]; omega
    · go_wp2
      go_ret
      refine ⟨ret_str ?_, rfl⟩
      have := HK.out
      rw [HR.out, ahead, show width.toNat - l.length = k by omega]

theorem repeatL_one (c : UInt8) (n : Nat) : Lib.repeatL [c] n = List.replicate n c := by
  induction n with
  | zero => rfl
  | succ n ih => rw [Lib.repeatL, ih]; simp [List.replicate_succ]
theorem repeat_one (c : UInt8) (k : Nat) (w : World) (hk : k ≤ 100) :
    Calls Tryz.prog 158 #[.string ⟨#[c]⟩, .int .i64 (k : Int)] w fun e w' => e = .returned (.string ⟨(List.replicate k c).toArray⟩) ∧ Below w.heap.size w w' := by
  have hr := Tryz.strings_Repeat ⟨#[c]⟩ k w (by omega) (by simp [ByteArray.size]; omega)
  have e1 : (⟨(Lib.repeatL (⟨#[c]⟩ : ByteArray).data.toList k).toArray⟩ : ByteArray) = ⟨(List.replicate k c).toArray⟩ := by rw [show (⟨#[c]⟩ : ByteArray).data.toList = [c] from rfl, repeatL_one]
  rw [e1] at hr
  exact hr
end Go.Proofs.YtcnmbolmgifgfabGreatDoor

/- Contracts of internal/strconv.formatBits and strconv.FormatInt at the bases 8 and 16, for numbers of 0 to 2^53 - 1. -/
namespace Go.Proofs.YtcnmbolmgifgfabGreatDoor
open Go.ChangeShapes Go.WideShapes Go.ChangeAt Go.RowKit

theorem tz64_8 (w : World) (hc : w.cell? ⟨5, 7, none⟩ = some (.int .u8 3)) :
    Calls Tryz.prog 232 #[.int .u64 8] w fun e w' => e = .returned (.int .i64 3) ∧ w = w' := by
  have e0 : IntKind.u64.wrap (bits BinOp.and IntKind.u64 8 (IntKind.u64.wrap (-8)) * 285870213051353865) / 288230376151711744 = 7 := by decide +kernel
  go_enter Tryz.func232, Tryz.ntmps232
  go_wp2
  go_ret
  exact ⟨rfl, rfl⟩
theorem tz_8 (w : World) (hc : w.cell? ⟨5, 7, none⟩ = some (.int .u8 3)) :
    Calls Tryz.prog 230 #[.int .u64 8] w fun e w' => e = .returned (.int .i64 3) ∧ w = w' := by
  go_enter Tryz.func230, Tryz.ntmps230
  go_wp2_with (go_at_call 232; refine (tz64_8 _ hc).mono ?_; rintro e w' ⟨rfl, rfl⟩)
  go_ret
  exact ⟨rfl, rfl⟩
theorem pow_8 (w : World) : Calls Tryz.prog 229 #[.int .i64 8] w fun e w' => e = .returned (.bool true) ∧ w = w' := by
  have e0 : (bits BinOp.and IntKind.i64 8 7 == 0) = true := by decide +kernel
  go_enter Tryz.func229, Tryz.ntmps229
  go_wp2
  go_ret
  exact ⟨rfl, rfl⟩

theorem tz64_16 (w : World) (hc : w.cell? ⟨5, 15, none⟩ = some (.int .u8 4)) :
    Calls Tryz.prog 232 #[.int .u64 16] w fun e w' => e = .returned (.int .i64 4) ∧ w = w' := by
  have e0 : IntKind.u64.wrap (bits BinOp.and IntKind.u64 16 (IntKind.u64.wrap (-16)) * 285870213051353865) / 288230376151711744 = 15 := by decide +kernel
  go_enter Tryz.func232, Tryz.ntmps232
  go_wp2
  go_ret
  exact ⟨rfl, rfl⟩
theorem tz_16 (w : World) (hc : w.cell? ⟨5, 15, none⟩ = some (.int .u8 4)) :
    Calls Tryz.prog 230 #[.int .u64 16] w fun e w' => e = .returned (.int .i64 4) ∧ w = w' := by
  go_enter Tryz.func230, Tryz.ntmps230
  go_wp2_with (go_at_call 232; refine (tz64_16 _ hc).mono ?_; rintro e w' ⟨rfl, rfl⟩)
  go_ret
  exact ⟨rfl, rfl⟩
theorem pow_16 (w : World) : Calls Tryz.prog 229 #[.int .i64 16] w fun e w' => e = .returned (.bool true) ∧ w = w' := by
  have e0 : (bits BinOp.and IntKind.i64 16 15 == 0) = true := by decide +kernel
  go_enter Tryz.func229, Tryz.ntmps229
  go_wp2
  go_ret
  exact ⟨rfl, rfl⟩

end Go.Proofs.YtcnmbolmgifgfabGreatDoor

/- Contract of internal/strconv.formatBits at the bases 8 and 16. -/
namespace Go.Proofs.YtcnmbolmgifgfabGreatDoor
open Go.ChangeShapes Go.WideShapes Go.ChangeAt Go.RowKit

theorem dig36_size : (⟨#[48, 49, 50, 51, 52, 53, 54, 55, 56, 57, 97, 98, 99, 100, 101, 102, 103, 104, 105, 106, 107, 108, 109, 110, 111, 112, 113, 114, 115, 116, 117, 118, 119, 120, 121, 122]⟩ : ByteArray).size = 36 := rfl
theorem dig36_at (d : Nat) (h : d < 16) : ((⟨#[48, 49, 50, 51, 52, 53, 54, 55, 56, 57, 97, 98, 99, 100, 101, 102, 103, 104, 105, 106, 107, 108, 109, 110, 111, 112, 113, 114, 115, 116, 117, 118, 119, 120, 121, 122]⟩ : ByteArray)[d]'(by rw [dig36_size]; omega)) = dch d := by
  match d, h with
  | 0, _ => rfl
  | 1, _ => rfl
  | 2, _ => rfl
  | 3, _ => rfl
  | 4, _ => rfl
  | 5, _ => rfl
  | 6, _ => rfl
  | 7, _ => rfl
  | 8, _ => rfl
  | 9, _ => rfl
  | 10, _ => rfl
  | 11, _ => rfl
  | 12, _ => rfl
  | 13, _ => rfl
  | 14, _ => rfl
  | 15, _ => rfl
  | n + 16, h => exact absurd h (by omega)
theorem index36 (d : Int) (h0 : 0 ≤ d) (h : d < 16) (w : World) :
    (Instr.index 9 (.string ⟨#[48, 49, 50, 51, 52, 53, 54, 55, 56, 57, 97, 98, 99, 100, 101, 102, 103, 104, 105, 106, 107, 108, 109, 110, 111, 112, 113, 114, 115, 116, 117, 118, 119, 120, 121, 122]⟩) (.int .u64 d)).run Tryz.prog w = .ok (.int .u8 ((dch d.toNat).toNat : Int)) w := by
  obtain ⟨k, rfl⟩ := Int.eq_ofNat_of_zero_le h0
  have hk : k < 16 := by omega
  have hd : k < 36 := by omega
  rw [run_index_string _ _ _ _ _ Tryz.underlying9]
  have e := dig36_at k hk
  simp only [dig36_size]
  rw [dif_pos (by omega)]
  simp only [Int.toNat_natCast]
  rw [e]

/-- The array of 65 bytes in block b holds the bytes l from place p on. -/
def ArrIs (w : World) (b p : Nat) (l : List UInt8) : Prop := ∃ cur, w.heap[b]? = some (.cells cur 246 (0, 0)) ∧ cur.size = 65 ∧ cur.toList.drop p = byteVals l
theorem ArrIs.new (w : World) : ArrIs (w.alloc (.cells Tryz.zeroCells246 246)) w.heap.size 65 [] :=
  ⟨Tryz.zeroCells246, heap_alloc_new w _, rfl, rfl⟩
theorem ArrIs.cell {w : World} {b p : Nat} {l : List UInt8} (h : ArrIs w b p l) (q : Nat) (hq : q < 65) : (∃ v, w.cell? ⟨b, q, none⟩ = some v) ∧ w.frozen? ⟨b, q, none⟩ = false := by
  obtain ⟨cur, hb, hs, _⟩ := h
  exact ⟨⟨_, (cell_of_row w b q cur _ _ hb).trans (Array.getElem?_eq_getElem (by omega))⟩, frozen_of_row w b q cur _ hb⟩
theorem ArrIs.store {w : World} {b q : Nat} {l : List UInt8} (h : ArrIs w b (q + 1) l) (hq : q < 65) (c : UInt8) : ArrIs (w.setCell ⟨b, q, none⟩ (.int .u8 (c.toNat : Int))) b q (c :: l) := by
  obtain ⟨cur, hb, hs, hd⟩ := h
  refine ⟨_, heap_setCell_same w b q cur _ _ hb, by simpa using hs, ?_⟩
  rw [Array.toList_setIfInBounds]
  have hl : q < cur.toList.length := by simpa [hs] using hq
  rw [List.drop_eq_getElem_cons (by simpa using hl)]
  simp [byteVals, List.drop_set_of_lt, hd]
theorem ArrIs.len {w : World} {b p : Nat} {l : List UInt8} (h : ArrIs w b p l) : l.length = 65 - p := by
  obtain ⟨cur, _, hs, hd⟩ := h
  have := congrArg List.length hd
  simp [byteVals, hs] at this
  omega
theorem ArrIs.conv {w : World} {b p : Nat} {l : List UInt8} (h : ArrIs w b p l) (cap : Nat) :
    (convert 82 9 (.slice (some ⟨b, p, none⟩) (65 - p) cap)).run Tryz.prog w = .ok (.string ⟨l.toArray⟩) w := by
  have hl := h.len
  rw [← hl]
  refine run_convert_bytes_back (P := Tryz.prog) w 82 9 5 ⟨b, p, none⟩ cap l Tryz.underlying82 Tryz.underlying5 Tryz.underlying9 ?_
  intro j hj
  obtain ⟨cur, hb, hs, hd⟩ := h
  have e : (⟨b, p, none⟩ : Addr).add j = ⟨b, p + j, none⟩ := by unfold Addr.add; split <;> simp_all
  rw [e, cell_of_row w b (p + j) cur _ _ hb]
  have h1 : (cur.toList.drop p)[j]? = (byteVals l)[j]? := by rw [hd]
  rw [List.getElem?_drop] at h1
  simp [byteVals, List.getElem?_eq_getElem hj] at h1
  rw [← h1]

theorem tab_lt {w : World} {g i : Nat} {v : Value} (h : w.cell? ⟨g, i, none⟩ = some v) : g < w.heap.size := by
  rcases Nat.lt_or_ge g w.heap.size with h' | h'
  · exact h'
  · simp [World.cell?, Array.getElem?_eq_none h'] at h
end Go.Proofs.YtcnmbolmgifgfabGreatDoor

/- Contract of internal/strconv.formatBits at the bases 8 and 16, for numbers of 0 to 2^53 - 1: the numeral. -/
namespace Go.Proofs.YtcnmbolmgifgfabGreatDoor
open Go.ChangeShapes Go.WideShapes Go.ChangeAt Go.RowKit

theorem slice65 (b p : Nat) (W : World) (hp : p < 65) : (Instr.sliceAt 246 (.pointer (some ⟨b, 0, none⟩)) (some (.int .i64 (p : Int))) none none).run Tryz.prog W = .ok (.slice (some ⟨b, p, none⟩) (65 - p) (65 - p)) W := by
  have hal : Tryz.prog.arrayLen 246 = 65 := by kernel_rfl
  have hel : Tryz.prog.elem 246 = 5 := by kernel_rfl
  have hsz : (sizeOf 5).run Tryz.prog W = .ok 1 W := by kernel_rfl
  rw [run_sliceAt_array_l W 246 ⟨b, 0, none⟩ (by kernel_rfl) .i64 (p : Int) (by omega) (by rw [hal]; omega), hal, hel, hsz]
  simp only [Result.andThen, slicedAt, Int.toNat_natCast]
  rw [if_neg (by omega)]
  have e : (⟨b, 0, none⟩ : Addr).add (p * 1) = ⟨b, p, none⟩ := by unfold Addr.add; split <;> simp_all
  rw [e]
theorem wraps_u63 (n : Int) (h₀ : 0 ≤ n) (h₁ : n < 2 ^ 63) : IntKind.u64.wrap n = n := by rw [IntKind.wrap_u64]; omega
theorem numeral_step {b u : Nat} {x : Nat} {l : List UInt8} (hb : 2 ≤ b) (hx : x < b) (h : DigFrom b u x l) (h0 : u = 0 → l = []) (h1 : 0 < u → 0 < x) : dch x :: l = numeral b u := by
  by_cases hu : u = 0
  · subst hu
    have hl := h0 rfl
    subst hl
    have : x = 0 := by
      have h2 : digs b 0 = digs b x ++ [] := h
      rcases Nat.eq_zero_or_pos x with h3 | h3
      · exact h3
      · rw [digs_zero, List.append_nil] at h2
        exact absurd h2.symm (digs_ne hb h3)
    subst this
    rfl
  · have h2 := h.more hb (h1 (by omega))
    rw [Nat.div_eq_of_lt hx, Nat.mod_eq_of_lt hx] at h2
    rw [numeral, if_neg hu, h2.done]

theorem and_7 (x : Int) (h₀ : 0 ≤ x) (h₁ : x ≤ 9007199254740991) : bits BinOp.and IntKind.u64 x 7 = x % 8 :=
  bits_mask .u64 63 (by decide) wraps_u63 3 (by decide) x h₀ (by omega)

set_option maxRecDepth 100000 in
set_option maxHeartbeats 800000 in
theorem bits_8 (u : Int) (w : World) (h0 : 0 ≤ u) (h1 : u ≤ 9007199254740991) (hc : w.cell? ⟨5, 7, none⟩ = some (.int .u8 3)) :
    Calls Tryz.prog 223 #[.slice none 0 0, .int .u64 u, .int .i64 8, .bool false, .bool false] w fun e w' => e = .returned (.tuple #[.slice none 0 0, .string ⟨(numeral 8 u.toNat).toArray⟩]) ∧ Below w.heap.size w w' := by
  have hc2 : ∀ o, (w.alloc o).cell? ⟨5, 7, none⟩ = some (.int .u8 3) := fun o => by
    rw [World.cell?_of_block (w := w) (Below.heap_alloc w o _ (tab_lt hc))]; exact hc
  have HC := Lib.hid hc2
  have hsl : ∀ (p : Nat) (W : World), p < 65 → (Instr.sliceAt 246 (.pointer (some ⟨w.heap.size, 0, none⟩)) (some (.int .i64 (p : Int))) none none).run Tryz.prog W = .ok (.slice (some ⟨w.heap.size, p, none⟩) (65 - p) (65 - p)) W := fun p W hp => slice65 w.heap.size p W hp
  have HSL := Lib.hid hsl
  clear hc2 hc hsl
  go_enter Tryz.func223, Tryz.ntmps223
  go_wp2_with (first | (go_at_call 229; refine (pow_8 _).mono ?_; rintro e w' ⟨rfl, rfl⟩) | (go_at_call 230; refine (tz_8 _ (HC.out _)).mono ?_; rintro e w' ⟨rfl, rfl⟩))
  go_loopw [1, 13] (fun m i wr => ∃ (x : Int) (p : Nat) (l : List UInt8), 0 ≤ x ∧ x ≤ 9007199254740991 ∧ p ≤ 65 ∧ 65 ≤ p + 18 ∧ m = .int .u64 x ∧ i = .int .i64 (p : Int) ∧ Hid (ArrIs wr w.heap.size p l) ∧ Hid (DigFrom 8 u.toNat x.toNat l) ∧ Hid ((u = 0 → l = []) ∧ (0 < u → 0 < x)) ∧ Below w.heap.size w wr) (fun m _ _ => (intOf m).toNat)
  case atStart => exact ⟨u, 65, [], h0, h1, by omega, by omega, rfl, rfl, Lib.hid (ArrIs.new w), Lib.hid (DigFrom.start _ _), Lib.hid ⟨fun _ => rfl, fun h => h⟩, (Below.refl _ _).alloc (Nat.le_refl _) _⟩
  case round =>
    obtain ⟨x, p, l, hx0, hx1, hp0, hp1, rfl, rfl, HA, HD, HZ, hb⟩ := hrel
    have HB := Lib.hid hb
    clear hb
    have hlen : l.length ≤ 18 := HD.out.len (k := 18) (by omega) (by omega)
    have hpl := HA.out.len
    have hp2 : 65 ≤ p + 18 := by omega
    clear hpl hlen
    obtain ⟨q, rfl⟩ : ∃ q, p = q + 1 := ⟨p - 1, by omega⟩
    obtain ⟨⟨cv, hcv⟩, hfr⟩ := HA.out.cell q (by omega)
    have hand := and_7 x hx0 hx1
    by_cases hlt : x < 8
    · have hix := index36 x hx0 (by omega) wr
      have HA2 := Lib.hid (HA.out.store (by omega) (dch x.toNat))
      have hsl := HSL.out q (wr.setCell ⟨w.heap.size, q, none⟩ (.int .u8 ((dch x.toNat).toNat : Int))) (by omega)
      have hcon := HA2.out.conv (65 - q)
      have HN := Lib.hid (numeral_step (b := 8) (by omega) (by omega) HD.out (fun h => HZ.out.1 (by omega)) (fun h => by have := HZ.out.2 (by omega); omega))
      go_wp2
      go_ret2
      refine ⟨?_, HB.out.setCell (Nat.le_refl _) _⟩
      rw [← HN.out]; rfl
    · have hix := index36 (x % 8) (by omega) (by omega) wr
      have HA2 := Lib.hid (HA.out.store (by omega) (dch (x % 8).toNat))
      have HB2 := Lib.hid (HB.out.setCell (p := ⟨w.heap.size, q, none⟩) (Nat.le_refl _) (.int .u8 ((dch (x % 8).toNat).toNat : Int)))
      have HD2 := Lib.hid (show DigFrom 8 u.toNat (x / 8).toNat (dch (x % 8).toNat :: l) by
        have := HD.out.more (by omega) (by omega)
        rw [show (x / 8).toNat = x.toNat / 8 by omega, show (x % 8).toNat = x.toNat % 8 by omega]
        exact this)
      have hq : 65 ≤ q + 18 := by
        have h2 := HD2.out.len (k := 18) (by omega) (by omega)
        have h3 := HA2.out.len
        omega
      have HZ2 := Lib.hid (show (u = 0 → dch (x % 8).toNat :: l = []) ∧ (0 < u → 0 < x / 8) from ⟨fun h => by
        have h3 := HD.out
        rw [DigFrom, h, show (0 : Int).toNat = 0 from rfl, digs_zero] at h3
        have h4 := digs_ne (b := 8) (u := x.toNat) (by omega) (by omega)
        cases hdd : digs 8 x.toNat with
        | nil => exact absurd hdd h4
        | cons a t => rw [hdd] at h3; simp at h3, fun _ => by omega⟩)
      go_wp2
      go_roundw
      case rel => exact ⟨x / 8, q, _, by omega, by omega, by omega, hq, rfl, by go_num, HA2, HD2, HZ2, HB2.out⟩
      case measure => simp [intOf]; omega

theorem and_15 (x : Int) (h₀ : 0 ≤ x) (h₁ : x ≤ 9007199254740991) : bits BinOp.and IntKind.u64 x 15 = x % 16 :=
  bits_mask .u64 63 (by decide) wraps_u63 4 (by decide) x h₀ (by omega)

set_option maxRecDepth 100000 in
set_option maxHeartbeats 800000 in
theorem bits_16 (u : Int) (w : World) (h0 : 0 ≤ u) (h1 : u ≤ 9007199254740991) (hc : w.cell? ⟨5, 15, none⟩ = some (.int .u8 4)) :
    Calls Tryz.prog 223 #[.slice none 0 0, .int .u64 u, .int .i64 16, .bool false, .bool false] w fun e w' => e = .returned (.tuple #[.slice none 0 0, .string ⟨(numeral 16 u.toNat).toArray⟩]) ∧ Below w.heap.size w w' := by
  have hc2 : ∀ o, (w.alloc o).cell? ⟨5, 15, none⟩ = some (.int .u8 4) := fun o => by
    rw [World.cell?_of_block (w := w) (Below.heap_alloc w o _ (tab_lt hc))]; exact hc
  have HC := Lib.hid hc2
  have hsl : ∀ (p : Nat) (W : World), p < 65 → (Instr.sliceAt 246 (.pointer (some ⟨w.heap.size, 0, none⟩)) (some (.int .i64 (p : Int))) none none).run Tryz.prog W = .ok (.slice (some ⟨w.heap.size, p, none⟩) (65 - p) (65 - p)) W := fun p W hp => slice65 w.heap.size p W hp
  have HSL := Lib.hid hsl
  clear hc2 hc hsl
  go_enter Tryz.func223, Tryz.ntmps223
  go_wp2_with (first | (go_at_call 229; refine (pow_16 _).mono ?_; rintro e w' ⟨rfl, rfl⟩) | (go_at_call 230; refine (tz_16 _ (HC.out _)).mono ?_; rintro e w' ⟨rfl, rfl⟩))
  go_loopw [1, 13] (fun m i wr => ∃ (x : Int) (p : Nat) (l : List UInt8), 0 ≤ x ∧ x ≤ 9007199254740991 ∧ p ≤ 65 ∧ 65 ≤ p + 14 ∧ m = .int .u64 x ∧ i = .int .i64 (p : Int) ∧ Hid (ArrIs wr w.heap.size p l) ∧ Hid (DigFrom 16 u.toNat x.toNat l) ∧ Hid ((u = 0 → l = []) ∧ (0 < u → 0 < x)) ∧ Below w.heap.size w wr) (fun m _ _ => (intOf m).toNat)
  case atStart => exact ⟨u, 65, [], h0, h1, by omega, by omega, rfl, rfl, Lib.hid (ArrIs.new w), Lib.hid (DigFrom.start _ _), Lib.hid ⟨fun _ => rfl, fun h => h⟩, (Below.refl _ _).alloc (Nat.le_refl _) _⟩
  case round =>
    obtain ⟨x, p, l, hx0, hx1, hp0, hp1, rfl, rfl, HA, HD, HZ, hb⟩ := hrel
    have HB := Lib.hid hb
    clear hb
    have hlen : l.length ≤ 14 := HD.out.len (k := 14) (by omega) (by omega)
    have hpl := HA.out.len
    have hp2 : 65 ≤ p + 14 := by omega
    clear hpl hlen
    obtain ⟨q, rfl⟩ : ∃ q, p = q + 1 := ⟨p - 1, by omega⟩
    obtain ⟨⟨cv, hcv⟩, hfr⟩ := HA.out.cell q (by omega)
    have hand := and_15 x hx0 hx1
    by_cases hlt : x < 16
    · have hix := index36 x hx0 (by omega) wr
      have HA2 := Lib.hid (HA.out.store (by omega) (dch x.toNat))
      have hsl := HSL.out q (wr.setCell ⟨w.heap.size, q, none⟩ (.int .u8 ((dch x.toNat).toNat : Int))) (by omega)
      have hcon := HA2.out.conv (65 - q)
      have HN := Lib.hid (numeral_step (b := 16) (by omega) (by omega) HD.out (fun h => HZ.out.1 (by omega)) (fun h => by have := HZ.out.2 (by omega); omega))
      go_wp2
      go_ret2
      refine ⟨?_, HB.out.setCell (Nat.le_refl _) _⟩
      rw [← HN.out]; rfl
    · have hix := index36 (x % 16) (by omega) (by omega) wr
      have HA2 := Lib.hid (HA.out.store (by omega) (dch (x % 16).toNat))
      have HB2 := Lib.hid (HB.out.setCell (p := ⟨w.heap.size, q, none⟩) (Nat.le_refl _) (.int .u8 ((dch (x % 16).toNat).toNat : Int)))
      have HD2 := Lib.hid (show DigFrom 16 u.toNat (x / 16).toNat (dch (x % 16).toNat :: l) by
        have := HD.out.more (by omega) (by omega)
        rw [show (x / 16).toNat = x.toNat / 16 by omega, show (x % 16).toNat = x.toNat % 16 by omega]
        exact this)
      have hq : 65 ≤ q + 14 := by
        have h2 := HD2.out.len (k := 14) (by omega) (by omega)
        have h3 := HA2.out.len
        omega
      have HZ2 := Lib.hid (show (u = 0 → dch (x % 16).toNat :: l = []) ∧ (0 < u → 0 < x / 16) from ⟨fun h => by
        have h3 := HD.out
        rw [DigFrom, h, show (0 : Int).toNat = 0 from rfl, digs_zero] at h3
        have h4 := digs_ne (b := 16) (u := x.toNat) (by omega) (by omega)
        cases hdd : digs 16 x.toNat with
        | nil => exact absurd hdd h4
        | cons a t => rw [hdd] at h3; simp at h3, fun _ => by omega⟩)
      go_wp2
      go_roundw
      case rel => exact ⟨x / 16, q, _, by omega, by omega, by omega, hq, rfl, by go_num, HA2, HD2, HZ2, HB2.out⟩
      case measure => simp [intOf]; omega

end Go.Proofs.YtcnmbolmgifgfabGreatDoor

/- Contracts of internal/strconv.FormatInt and strconv.FormatInt at the bases 8 and 16, for numbers of 0 to 2^53 - 1: the numeral. -/
namespace Go.Proofs.YtcnmbolmgifgfabGreatDoor
open Go.ChangeShapes Go.WideShapes Go.ChangeAt Go.RowKit

theorem ifmt_8 (u : Int) (w : World) (h0 : 0 ≤ u) (h1 : u ≤ 9007199254740991) (hc : w.cell? ⟨5, 7, none⟩ = some (.int .u8 3)) :
    Calls Tryz.prog 207 #[.int .i64 u, .int .i64 8] w fun e w' => e = .returned (.string ⟨(numeral 8 u.toNat).toArray⟩) ∧ Below w.heap.size w w' := by
  have hw : IntKind.u64.wrap u = u := wraps_u63 u h0 (by omega)
  have hd : decide (u < 0) = false := by simp; omega
  go_enter Tryz.func207, Tryz.ntmps207
  go_wp2_with fail
  refine (bits_8 u _ h0 h1 hc).mono ?_
  rintro e w' ⟨rfl, hb⟩
  go_wp2_with fail
  go_ret
  exact ⟨rfl, hb⟩
theorem fmt_8 (u : Int) (w : World) (h0 : 0 ≤ u) (h1 : u ≤ 9007199254740991) (hc : w.cell? ⟨5, 7, none⟩ = some (.int .u8 3)) :
    Calls Tryz.prog 178 #[.int .i64 u, .int .i64 8] w fun e w' => e = .returned (.string ⟨(numeral 8 u.toNat).toArray⟩) ∧ Below w.heap.size w w' := by
  go_enter Tryz.func178, Tryz.ntmps178
  go_wp2_with fail
  refine (ifmt_8 u _ h0 h1 hc).mono ?_
  rintro e w' ⟨rfl, hb⟩
  go_wp2_with fail
  go_ret
  exact ⟨rfl, hb⟩

theorem ifmt_16 (u : Int) (w : World) (h0 : 0 ≤ u) (h1 : u ≤ 9007199254740991) (hc : w.cell? ⟨5, 15, none⟩ = some (.int .u8 4)) :
    Calls Tryz.prog 207 #[.int .i64 u, .int .i64 16] w fun e w' => e = .returned (.string ⟨(numeral 16 u.toNat).toArray⟩) ∧ Below w.heap.size w w' := by
  have hw : IntKind.u64.wrap u = u := wraps_u63 u h0 (by omega)
  have hd : decide (u < 0) = false := by simp; omega
  go_enter Tryz.func207, Tryz.ntmps207
  go_wp2_with fail
  refine (bits_16 u _ h0 h1 hc).mono ?_
  rintro e w' ⟨rfl, hb⟩
  go_wp2_with fail
  go_ret
  exact ⟨rfl, hb⟩
theorem fmt_16 (u : Int) (w : World) (h0 : 0 ≤ u) (h1 : u ≤ 9007199254740991) (hc : w.cell? ⟨5, 15, none⟩ = some (.int .u8 4)) :
    Calls Tryz.prog 178 #[.int .i64 u, .int .i64 16] w fun e w' => e = .returned (.string ⟨(numeral 16 u.toNat).toArray⟩) ∧ Below w.heap.size w w' := by
  go_enter Tryz.func178, Tryz.ntmps178
  go_wp2_with fail
  refine (ifmt_16 u _ h0 h1 hc).mono ?_
  rintro e w' ⟨rfl, hb⟩
  go_wp2_with fail
  go_ret
  exact ⟨rfl, hb⟩

end Go.Proofs.YtcnmbolmgifgfabGreatDoor

/- Contracts of spec.DecText, impl.DecText and the law laws.FnExactDecText, for every int. -/
namespace Go.Proofs.YtcnmbolmgifgfabGreatDoor
open Go.ChangeShapes Go.WideShapes Go.ChangeAt Go.RowKit

theorem below_grow (w : World) (q : Nat) (os : Array Obj) : Below w.heap.size w (Sort.grow (w.drewN q) os) :=
  ⟨rfl, rfl, rfl, by simp [Sort.grow, World.drewN], fun k hk => by simp [Sort.grow, World.drewN, Array.getElem?_append, hk]⟩

def decText (n : Int) : List UInt8 := if n < 0 then 45 :: numeral 10 n.natAbs else numeral 10 n.toNat
def decTextv (n : Int) : ByteArray := ⟨(decText n).toArray⟩
theorem itoa_eq (n : Int) : Lib.itoa n = decText n := by
  unfold Lib.itoa decText; rw [decDigits_eq, decDigits_eq]

end Go.Proofs.YtcnmbolmgifgfabGreatDoor

/- The tables that strconv reads, carried from world to world; strconv.FormatInt at the bases 8, 10 and 16; impl.fieldDigits and impl.zeros. -/
namespace Go.Proofs.YtcnmbolmgifgfabGreatDoor
open Go.ChangeShapes Go.WideShapes Go.ChangeAt Go.RowKit

/-- What the walks ask of the library's tables. -/
def Tabs (w : World) : Prop := w.cell? ⟨5, 7, none⟩ = some (.int .u8 3) ∧ w.cell? ⟨5, 15, none⟩ = some (.int .u8 4) ∧ Lib.TabIs Tryz.prog w "internal/strconv.uint64pow10" .u64 Lib.pow10Tab
theorem Tabs.below {w w' : World} (h : Tabs w) (hb : Below w.heap.size w w') : Tabs w' :=
  ⟨(hb.cell (p := ⟨5, 7, none⟩) (tab_lt h.1)).trans h.1, (hb.cell (p := ⟨5, 15, none⟩) (tab_lt h.1)).trans h.2.1, Lib.tabBelow_of_tabIs h.2.2 w' hb⟩

theorem fmtInt_8 (n : Int) (w : World) (h0 : 0 ≤ n) (h1 : n ≤ 9007199254740991) (ht : Tabs w) :
    Calls Tryz.prog 178 #[.int .i64 n, .int .i64 8] w fun e w' => e = .returned (.string (numv 8 n)) ∧ Below w.heap.size w w' := fmt_8 n w h0 h1 ht.1
theorem fmtInt_16 (n : Int) (w : World) (h0 : 0 ≤ n) (h1 : n ≤ 9007199254740991) (ht : Tabs w) :
    Calls Tryz.prog 178 #[.int .i64 n, .int .i64 16] w fun e w' => e = .returned (.string (numv 16 n)) ∧ Below w.heap.size w w' := fmt_16 n w h0 h1 ht.2.1
theorem fmtInt_10 (n : Int) (w : World) (h0 : 0 ≤ n) (h1 : n ≤ 9007199254740991) (ht : Tabs w) :
    Calls Tryz.prog 178 #[.int .i64 n, .int .i64 10] w fun e w' => e = .returned (.string (numv 10 n)) ∧ Below w.heap.size w w' := by
  refine (Tryz.strconv_FormatInt_10 n (by omega) (by omega) w ht.2.2).mono ?_
  rintro e w' ⟨rfl, k, os, rfl⟩
  refine ⟨?_, below_grow _ _ _⟩
  rw [itoa_eq, decText, if_neg (by omega)]; rfl

theorem numv_size (b : Nat) (n : Int) : (numv b n).size = (numeral b n.toNat).length := ba_size _
def Valid (n width : Int) : Prop := 0 ≤ n ∧ n ≤ 9007199254740991 ∧ 1 ≤ width ∧ width ≤ 20

theorem field_no_8 (n width : Int) (w : World) (h : ¬ Valid n width) :
    Calls Tryz.prog 184 #[.int .i64 n, .int .i64 width, .int .i64 8] w fun e w' => e = .returned (.tuple #[.string ⟨#[]⟩, .bool false]) ∧ w = w' := by
  have HV := Lib.hid h
  clear h
  by_cases a1 : n < 0
  · go_enter Tryz.func184, Tryz.ntmps184
    go_wp2_with fail
    go_ret2
    exact ⟨rfl, rfl⟩
  · by_cases a2 : 9007199254740991 < n
    · go_enter Tryz.func184, Tryz.ntmps184
      go_wp2_with fail
      go_ret2
      exact ⟨rfl, rfl⟩
    · by_cases a3 : width < 1
      · go_enter Tryz.func184, Tryz.ntmps184
        go_wp2_with fail
        go_ret2
        exact ⟨rfl, rfl⟩
      · have a4 : 20 < width := by have := HV.out; unfold Valid at this; omega
        go_enter Tryz.func184, Tryz.ntmps184
        go_wp2_with fail
        go_ret2
        exact ⟨rfl, rfl⟩
theorem field_8 (n width : Int) (w : World) (h : Valid n width) (ht : Tabs w) :
    Calls Tryz.prog 184 #[.int .i64 n, .int .i64 width, .int .i64 8] w fun e w' => e = .returned (.tuple #[.string (numv 8 n), .bool (decide (((numv 8 n).size : Int) ≤ width))]) ∧ Below w.heap.size w w' := by
  obtain ⟨a1, a2, a3, a4⟩ := h
  have HT := Lib.hid ht
  clear ht
  have HC := Lib.hid (fmtInt_8 n w a1 a2 HT.out)
  have hs : ((numv 8 n).size : Int) ≤ 20 := by rw [numv_size]; have := numeral_len (b := 8) (u := n.toNat) (k := 20) (by omega) (by omega) (by omega); omega
  generalize numv 8 n = r at HC hs
  by_cases hle : (r.size : Int) ≤ width
  · have hd : decide ((r.size : Int) ≤ width) = true := by simpa using hle
    go_enter Tryz.func184, Tryz.ntmps184
    go_wp2_with (go_at_call 178; refine HC.out.mono ?_; rintro e w' ⟨rfl, hb⟩)
    go_ret2
    exact ⟨by rw [hd]; rfl, by assumption⟩
  · have hd : decide ((r.size : Int) ≤ width) = false := by simpa using hle
    go_enter Tryz.func184, Tryz.ntmps184
    go_wp2_with (go_at_call 178; refine HC.out.mono ?_; rintro e w' ⟨rfl, hb⟩)
    go_ret2
    exact ⟨by rw [hd]; rfl, by assumption⟩

theorem field_no_10 (n width : Int) (w : World) (h : ¬ Valid n width) :
    Calls Tryz.prog 184 #[.int .i64 n, .int .i64 width, .int .i64 10] w fun e w' => e = .returned (.tuple #[.string ⟨#[]⟩, .bool false]) ∧ w = w' := by
  have HV := Lib.hid h
  clear h
  by_cases a1 : n < 0
  · go_enter Tryz.func184, Tryz.ntmps184
    go_wp2_with fail
    go_ret2
    exact ⟨rfl, rfl⟩
  · by_cases a2 : 9007199254740991 < n
    · go_enter Tryz.func184, Tryz.ntmps184
      go_wp2_with fail
      go_ret2
      exact ⟨rfl, rfl⟩
    · by_cases a3 : width < 1
      · go_enter Tryz.func184, Tryz.ntmps184
        go_wp2_with fail
        go_ret2
        exact ⟨rfl, rfl⟩
      · have a4 : 20 < width := by have := HV.out; unfold Valid at this; omega
        go_enter Tryz.func184, Tryz.ntmps184
        go_wp2_with fail
        go_ret2
        exact ⟨rfl, rfl⟩
theorem field_10 (n width : Int) (w : World) (h : Valid n width) (ht : Tabs w) :
    Calls Tryz.prog 184 #[.int .i64 n, .int .i64 width, .int .i64 10] w fun e w' => e = .returned (.tuple #[.string (numv 10 n), .bool (decide (((numv 10 n).size : Int) ≤ width))]) ∧ Below w.heap.size w w' := by
  obtain ⟨a1, a2, a3, a4⟩ := h
  have HT := Lib.hid ht
  clear ht
  have HC := Lib.hid (fmtInt_10 n w a1 a2 HT.out)
  have hs : ((numv 10 n).size : Int) ≤ 20 := by rw [numv_size]; have := numeral_len (b := 10) (u := n.toNat) (k := 20) (by omega) (by omega) (by omega); omega
  generalize numv 10 n = r at HC hs
  by_cases hle : (r.size : Int) ≤ width
  · have hd : decide ((r.size : Int) ≤ width) = true := by simpa using hle
    go_enter Tryz.func184, Tryz.ntmps184
    go_wp2_with (go_at_call 178; refine HC.out.mono ?_; rintro e w' ⟨rfl, hb⟩)
    go_ret2
    exact ⟨by rw [hd]; rfl, by assumption⟩
  · have hd : decide ((r.size : Int) ≤ width) = false := by simpa using hle
    go_enter Tryz.func184, Tryz.ntmps184
    go_wp2_with (go_at_call 178; refine HC.out.mono ?_; rintro e w' ⟨rfl, hb⟩)
    go_ret2
    exact ⟨by rw [hd]; rfl, by assumption⟩

theorem zeros_any (l : List UInt8) (width : Int) (w : World) (h : (l.length : Int) ≤ width) (hw : width ≤ 40) :
    Calls Tryz.prog 177 #[.string ⟨l.toArray⟩, .int .i64 width] w fun e w' => e = .returned (.string ⟨(ahead l width).toArray⟩) ∧ Below w.heap.size w w' := by
  obtain ⟨k, hk⟩ := Int.eq_ofNat_of_zero_le (show 0 ≤ width - (l.length : Int) by omega)
  obtain rfl : width = (l.length : Int) + k := by omega
  have hl : l.length ≤ 40 := by omega
  have hk2 : k ≤ 40 := by omega
  have hr : (List.replicate k (48 : UInt8)).length ≤ 40 := by simpa using hk2
  have HC := Lib.hid (repeat_one 48 k w (by omega))
  generalize hR : List.replicate k (48 : UInt8) = R at HC hr
  have HR := Lib.hid hR
  clear hk hR
  go_enter Tryz.func177, Tryz.ntmps177
  go_wp2_with fail
  rw [show (l.length : Int) + k - l.length = (k : Int) from by omega]
  refine HC.out.mono ?_
  rintro e w' ⟨rfl, hb⟩
  go_wp2_with fail
  go_ret
  refine ⟨ret_str ?_, hb⟩
  rw [ba_app, ahead, show ((l.length : Int) + k).toNat - l.length = k from by omega, HR.out]
end Go.Proofs.YtcnmbolmgifgfabGreatDoor

/- Contracts of spec.PutOct, impl.PutOct, spec.PutHex, impl.PutHex, spec.PutDec, impl.PutDec, for all arguments. -/
namespace Go.Proofs.YtcnmbolmgifgfabGreatDoor
open Go.ChangeShapes Go.WideShapes Go.ChangeAt Go.RowKit

theorem ret_sb {a c : ByteArray} {b d : Bool} {r : ByteArray × Bool} (h : r = (a, b)) (h1 : c = a) (h2 : d = b) : Ending.returned (.tuple #[.string c, .bool d]) = .returned (.tuple #[.string r.1, .bool r.2]) := by
  subst h h1 h2; rfl
instance (n width : Int) : Decidable (Valid n width) := by unfold Valid; infer_instance
def putOctv (n width : Int) : ByteArray × Bool :=
  if Valid n width ∧ ((numeral 8 n.toNat).length : Int) ≤ width then (⟨(ahead (numeral 8 n.toNat) width).toArray⟩, true) else (⟨#[]⟩, false)
def putHexv (n : Int) : ByteArray × Bool :=
  if 0 ≤ n ∧ n ≤ 4294967295 then (⟨(ahead (numeral 16 n.toNat) 8).toArray⟩, true) else (⟨#[]⟩, false)
def decl (n width : Int) : List UInt8 := numeral 10 n.toNat ++ List.replicate (width.toNat - (numeral 10 n.toNat).length) 32
def putDecv (n width : Int) : ByteArray × Bool :=
  if Valid n width ∧ ((numeral 10 n.toNat).length : Int) ≤ width then (⟨(decl n width).toArray⟩, true) else (⟨#[]⟩, false)
theorem ahead_len (l : List UInt8) (width : Int) : (ahead l width).length = max width.toNat l.length := by simp [ahead]; omega

theorem putOct_spec (n width : Int) (w : World) :
    Calls Tryz.prog 108 #[.int .i64 n, .int .i64 width] w fun e w' => e = .returned (.tuple #[.string (putOctv n width).1, .bool (putOctv n width).2]) ∧ w = w' := by
  by_cases h1 : 0 ≤ n ∧ n ≤ 9007199254740991
  · have i1 := inB_t h1
    by_cases h2 : 1 ≤ width ∧ width ≤ 20
    · have i2 := inB_t h2
      have HC := Lib.hid (fun w => digits_8 n h1.1 h1.2 w)
      have hlen : (numeral 8 n.toNat).length ≤ 20 := numeral_len (by omega) (by omega) (by omega)
      have hv : Valid n width := ⟨h1.1, h1.2, h2.1, h2.2⟩
      have hal := ahead_len (numeral 8 n.toNat) width
      have HA := Lib.hid (fun w => ahead_any (numeral 8 n.toNat) width w (by omega) (by omega))
      have hp : putOctv n width = if ((numeral 8 n.toNat).length : Int) ≤ width then (⟨(ahead (numeral 8 n.toNat) width).toArray⟩, true) else (⟨#[]⟩, false) := by
        rw [putOctv]; by_cases hq : ((numeral 8 n.toNat).length : Int) ≤ width
        · rw [if_pos ⟨hv, hq⟩, if_pos hq]
        · rw [if_neg (fun k => hq k.2), if_neg hq]
      have HP := Lib.hid hp
      clear hp hv
      simp only [numv] at HC
      generalize numeral 8 n.toNat = l at HC hlen hal HA HP
      generalize ahead l width = r at hal HA HP
      by_cases hq : (l.length : Int) ≤ width
      · have hr : (r.length : Int) ≤ width := by omega
        have HH := Lib.hid hal
        clear hal
        go_enter Tryz.func108, Tryz.ntmps108
        go_wp2_with (first | (go_at_call 90; refine (in_any _ _ _ _).mono ?_; rintro e w' ⟨rfl, rfl⟩) | (go_at_call 95; refine (HC.out _).mono ?_; rintro e w' ⟨rfl, rfl⟩) | (go_at_call 94; refine (HA.out _).mono ?_; rintro e w' ⟨rfl, rfl⟩))
        go_ret2
        exact ⟨ret_sb (by rw [HP.out, if_pos hq]) rfl rfl, rfl⟩
      · have hr : width < (r.length : Int) := by omega
        have HH := Lib.hid hal
        clear hal
        go_enter Tryz.func108, Tryz.ntmps108
        go_wp2_with (first | (go_at_call 90; refine (in_any _ _ _ _).mono ?_; rintro e w' ⟨rfl, rfl⟩) | (go_at_call 95; refine (HC.out _).mono ?_; rintro e w' ⟨rfl, rfl⟩) | (go_at_call 94; refine (HA.out _).mono ?_; rintro e w' ⟨rfl, rfl⟩))
        go_ret2
        exact ⟨ret_sb (by rw [HP.out, if_neg (by omega)]) rfl rfl, rfl⟩
    · have i2 := inB_f h2
      go_enter Tryz.func108, Tryz.ntmps108
      go_wp2_with (go_at_call 90; refine (in_any _ _ _ _).mono ?_; rintro e w' ⟨rfl, rfl⟩)
      go_ret2
      exact ⟨ret_sb (by rw [putOctv, if_neg (fun k => h2 ⟨k.1.2.2.1, k.1.2.2.2⟩)]) rfl rfl, rfl⟩
  · have i1 := inB_f h1
    go_enter Tryz.func108, Tryz.ntmps108
    go_wp2_with (go_at_call 90; refine (in_any _ _ _ _).mono ?_; rintro e w' ⟨rfl, rfl⟩)
    go_ret2
    exact ⟨ret_sb (by rw [putOctv, if_neg (fun k => h1 ⟨k.1.1, k.1.2.1⟩)]) rfl rfl, rfl⟩

theorem putOct_impl (n width : Int) (w : World) (ht : Tabs w) :
    Calls Tryz.prog 150 #[.int .i64 n, .int .i64 width] w fun e w' => e = .returned (.tuple #[.string (putOctv n width).1, .bool (putOctv n width).2]) ∧ Below w.heap.size w w' := by
  by_cases hv : Valid n width
  · have HC := Lib.hid (field_8 n width w hv ht)
    have HV := Lib.hid hv
    obtain ⟨_, _, _, h20⟩ := hv
    by_cases hq : ((numeral 8 n.toNat).length : Int) ≤ width
    · have hd : decide (((numv 8 n).size : Int) ≤ width) = true := by rw [numv_size]; simpa using hq
      rw [hd] at HC
      have HZ := Lib.hid (fun w => zeros_any (numeral 8 n.toNat) width w hq (by omega))
      have HP := Lib.hid (show putOctv n width = (⟨(ahead (numeral 8 n.toNat) width).toArray⟩, true) by rw [putOctv, if_pos ⟨HV.out, hq⟩])
      clear hd hq ht
      simp only [numv] at HC
      generalize numeral 8 n.toNat = l at HC HZ HP
      go_enter Tryz.func150, Tryz.ntmps150
      go_wp2_with fail
      refine HC.out.mono ?_
      rintro e w1 ⟨rfl, b1⟩
      go_wp2_with fail
      refine (HZ.out _).mono ?_
      rintro e w2 ⟨rfl, b2⟩
      go_wp2_with fail
      go_ret2
      exact ⟨ret_sb HP.out rfl rfl, b1.trans (b2.mono b1.size)⟩
    · have hd : decide (((numv 8 n).size : Int) ≤ width) = false := by rw [numv_size]; simpa using hq
      rw [hd] at HC
      have HP := Lib.hid (show putOctv n width = (⟨#[]⟩, false) by rw [putOctv, if_neg (fun k => hq k.2)])
      clear hd hq ht
      go_enter Tryz.func150, Tryz.ntmps150
      go_wp2_with fail
      refine HC.out.mono ?_
      rintro e w1 ⟨rfl, b1⟩
      go_wp2_with fail
      go_ret2
      exact ⟨ret_sb HP.out rfl rfl, b1⟩
  · have HC := Lib.hid (field_no_8 n width w hv)
    have HP := Lib.hid (show putOctv n width = (⟨#[]⟩, false) by rw [putOctv, if_neg (fun k => hv k.1)])
    clear hv ht
    go_enter Tryz.func150, Tryz.ntmps150
    go_wp2_with fail
    refine HC.out.mono ?_
    rintro e w1 ⟨rfl, rfl⟩
    go_wp2_with fail
    go_ret2
    exact ⟨ret_sb HP.out rfl rfl, Below.refl _ _⟩

theorem putHex_spec (n : Int) (w : World) :
    Calls Tryz.prog 53 #[.int .i64 n] w fun e w' => e = .returned (.tuple #[.string (putHexv n).1, .bool (putHexv n).2]) ∧ w = w' := by
  by_cases h1 : 0 ≤ n ∧ n ≤ 4294967295
  · have i1 := inB_t h1
    have HC := Lib.hid (fun w => digits_16 n h1.1 (by omega) w)
    have hlen : (numeral 16 n.toNat).length ≤ 20 := numeral_len (by omega) (by omega) (by omega)
    have HA := Lib.hid (fun w => ahead_any (numeral 16 n.toNat) 8 w (by omega) (by omega))
    have HP := Lib.hid (show putHexv n = (⟨(ahead (numeral 16 n.toNat) 8).toArray⟩, true) by rw [putHexv, if_pos h1])
    simp only [numv] at HC
    generalize numeral 16 n.toNat = l at HC hlen HA HP
    go_enter Tryz.func53, Tryz.ntmps53
    go_wp2_with (first | (go_at_call 90; refine (in_any _ _ _ _).mono ?_; rintro e w' ⟨rfl, rfl⟩) | (go_at_call 95; refine (HC.out _).mono ?_; rintro e w' ⟨rfl, rfl⟩) | (go_at_call 94; refine (HA.out _).mono ?_; rintro e w' ⟨rfl, rfl⟩))
    go_ret2
    exact ⟨ret_sb HP.out rfl rfl, rfl⟩
  · have i1 := inB_f h1
    go_enter Tryz.func53, Tryz.ntmps53
    go_wp2_with (go_at_call 90; refine (in_any _ _ _ _).mono ?_; rintro e w' ⟨rfl, rfl⟩)
    go_ret2
    exact ⟨ret_sb (by rw [putHexv, if_neg h1]) rfl rfl, rfl⟩

theorem putHex_impl (n : Int) (w : World) (ht : Tabs w) :
    Calls Tryz.prog 143 #[.int .i64 n] w fun e w' => e = .returned (.tuple #[.string (putHexv n).1, .bool (putHexv n).2]) ∧ Below w.heap.size w w' := by
  by_cases h0 : n < 0
  · clear ht
    go_enter Tryz.func143, Tryz.ntmps143
    go_wp2_with fail
    go_ret2
    exact ⟨ret_sb (by rw [putHexv, if_neg (by omega)]) rfl rfl, Below.refl _ _⟩
  · by_cases h1 : 4294967295 < n
    · clear ht
      go_enter Tryz.func143, Tryz.ntmps143
      go_wp2_with fail
      go_ret2
      exact ⟨ret_sb (by rw [putHexv, if_neg (by omega)]) rfl rfl, Below.refl _ _⟩
    · have HC := Lib.hid (fmtInt_16 n w (by omega) (by omega) ht)
      have hlen : (numeral 16 n.toNat).length ≤ 8 := numeral_len (by omega) (by omega) (by omega)
      have HZ := Lib.hid (fun w => zeros_any (numeral 16 n.toNat) 8 w (by omega) (by omega))
      have HP := Lib.hid (show putHexv n = (⟨(ahead (numeral 16 n.toNat) 8).toArray⟩, true) by rw [putHexv, if_pos (by omega)])
      clear ht
      simp only [numv] at HC
      generalize numeral 16 n.toNat = l at HC HZ HP hlen
      go_enter Tryz.func143, Tryz.ntmps143
      go_wp2_with fail
      refine HC.out.mono ?_
      rintro e w1 ⟨rfl, b1⟩
      go_wp2_with fail
      refine (HZ.out _).mono ?_
      rintro e w2 ⟨rfl, b2⟩
      go_wp2_with fail
      go_ret2
      exact ⟨ret_sb HP.out rfl rfl, b1.trans (b2.mono b1.size)⟩
end Go.Proofs.YtcnmbolmgifgfabGreatDoor

/- The text of a card; contracts of spec.l07Wide, spec.l07Octs and spec.PutCard. -/
namespace Go.Proofs.YtcnmbolmgifgfabGreatDoor
open Go.ChangeShapes Go.WideShapes Go.ChangeAt Go.RowKit Go.Deep

/-- The numbers of a card's head and their widths. -/
def flds (c : Card) : List (Int × Int) := [(0, 6), (c.Ino, 6), (c.Mode, 6), (c.Uid, 6), (c.Gid, 6), (c.Count, 6), (0, 6), (c.Time, 11), ((c.Path.size : Int) + 1, 6), ((c.Data.size : Int), 11)]
def octsOk (L : List (Int × Int)) : Bool := L.all fun x => (putOctv x.1 x.2).2
def octsB : List (Int × Int) → List UInt8
  | [] => []
  | x :: L => (putOctv x.1 x.2).1.data.toList ++ octsB L
def octsS (L : List (Int × Int)) : ByteArray := ⟨(octsB L).toArray⟩
theorem octsB_app (L M : List (Int × Int)) : octsB (L ++ M) = octsB L ++ octsB M := by
  induction L with
  | nil => rfl
  | cons x L ih => simp [octsB, ih]
theorem ba_appK (a b : List UInt8) : (⟨(a ++ b).toArray⟩ : ByteArray) = ⟨a.toArray⟩ ++ ⟨b.toArray⟩ := by
  apply ba_ext
  simp
theorem ba_self (s : ByteArray) : (⟨s.data.toList.toArray⟩ : ByteArray) = s := by cases s; simp
theorem octsS_snoc (L : List (Int × Int)) (x : Int × Int) : octsS (L ++ [x]) = octsS L ++ (putOctv x.1 x.2).1 := by
  have h : octsB [x] = (putOctv x.1 x.2).1.data.toList := by simp [octsB]
  rw [octsS, octsB_app, ba_appK, h, ba_self, octsS]
theorem octsOk_take {L : List (Int × Int)} {i : Nat} {x : Int × Int} (h : L[i]? = some x) : octsOk (L.take (i + 1)) = (octsOk (L.take i) && (putOctv x.1 x.2).2) := by
  rw [List.take_add_one, h]
  simp [octsOk]
theorem octsOk_bad {L : List (Int × Int)} {i : Nat} {x : Int × Int} (h : L[i]? = some x) (hk : (putOctv x.1 x.2).2 = false) : octsOk L = false := by
  rw [octsOk, List.all_eq_false]
  exact ⟨x, List.mem_of_getElem? h, by simp [hk]⟩
theorem octs_take {L : List (Int × Int)} {i : Nat} {x : Int × Int} (h : L[i]? = some x) : octsS (L.take (i + 1)) = octsS (L.take i) ++ (putOctv x.1 x.2).1 := by
  rw [List.take_add_one, h]
  exact octsS_snoc _ _
theorem putOct_le (n width : Int) : (putOctv n width).1.size ≤ 20 := by
  unfold putOctv
  split
  · rename_i h
    have h1 := h.1.2.2
    show (ahead (numeral 8 n.toNat) width).toArray.size ≤ 20
    rw [List.size_toArray, ahead_len]
    have h2 := h.1
    unfold Valid at h2
    omega
  · exact Nat.zero_le _
theorem octsS_le (L : List (Int × Int)) : (octsS L).size ≤ 20 * L.length := by
  induction L with
  | nil => exact Nat.zero_le _
  | cons x L ih =>
    have h1 := putOct_le x.1 x.2
    have e1 : (octsS (x :: L)).size = (octsB (x :: L)).length := by simp [octsS, ByteArray.size]
    have e2 : (octsS L).size = (octsB L).length := by simp [octsS, ByteArray.size]
    have e3 : (putOctv x.1 x.2).1.data.toList.length = (putOctv x.1 x.2).1.size := Array.length_toList
    rw [e1, octsB, List.length_append, e3, List.length_cons]
    omega
def octsR (L : List (Int × Int)) : ByteArray := if octsOk L then octsS L else ⟨#[]⟩
theorem octsS_nil : octsS [] = ⟨#[]⟩ := rfl
/-- The text of a card: none where a number has no room. -/
def cardTextv (c : Card) : ByteArray := if octsOk (flds c) then ⟨#[48, 55, 48, 55, 48, 55]⟩ ++ octsS (flds c) ++ c.Path ++ ⟨#[0]⟩ ++ c.Data else ⟨#[]⟩
def wideC : List Int := [6, 6, 6, 6, 6, 6, 6, 11, 6, 11]
/-- A row of numbers. -/
def RowN (w : World) (g : Nat) (l : List Int) : Prop := ∀ i x, l[i]? = some x → w.cell? ⟨g, i, none⟩ = some (.int .i64 x)
theorem RowN.below {w w' : World} {g B : Nat} {l : List Int} (h : RowN w g l) (hb : Below B w w') (hg : g < B) : RowN w' g l := fun i x hx => (hb.cell (p := ⟨g, i, none⟩) hg).trans (h i x hx)
theorem RowN.of {w : World} {g : Nat} {l : List Int} {ty : TypeId} (h : w.heap[g]? = some (.cells (l.map (fun x => Value.int .i64 x)).toArray ty (0, 0))) : RowN w g l := by
  intro i x hx
  simp only [World.cell?, h]
  simp [hx]
theorem wide_spec (w : World) : Calls Tryz.prog 63 #[] w fun e w' => ∃ G, e = .returned (.slice (some ⟨G, 0, none⟩) 10 10) ∧ w.heap.size ≤ G ∧ w'.heap[G]? = some (.cells #[.int .i64 6, .int .i64 6, .int .i64 6, .int .i64 6, .int .i64 6, .int .i64 6, .int .i64 6, .int .i64 11, .int .i64 6, .int .i64 11] 3 (0, 0)) ∧ Below w.heap.size w w' := by
  go_enter Tryz.func63, Tryz.ntmps63
  go_wp2_with fail
  go_ret
  exact ⟨w.heap.size, rfl, Nat.le_refl _, heap_lastG _ _, (Below.refl _ _).alloc (Nat.le_refl _) _⟩
set_option maxHeartbeats 3200000 in
set_option maxRecDepth 8000 in
theorem octs_spec (L : List (Int × Int)) (n g g2 : Nat) (w : World) (hn : n = L.length) (hm : n ≤ 1000) (hg : g < w.heap.size) (hg2 : g2 < w.heap.size) (h1 : RowN w g (L.map Prod.fst)) (h2 : RowN w g2 (L.map Prod.snd)) :
    Calls Tryz.prog 62 #[.slice (some ⟨g, 0, none⟩) n n, .slice (some ⟨g2, 0, none⟩) n n] w fun e w' => e = .returned (.tuple #[.string (octsR L), .bool (octsOk L)]) ∧ Below w.heap.size w w' := by
  have H1 := Lib.hid h1
  have H2 := Lib.hid h2
  have HG : Hid (∀ i, i < n → ∃ x, L[i]? = some x ∧ (L.map Prod.fst)[i]? = some x.1 ∧ (L.map Prod.snd)[i]? = some x.2) := Lib.hid (fun i hi => by
    have hx : L[i]? = some L[i] := List.getElem?_eq_getElem (by omega)
    exact ⟨L[i], hx, by simp [hx], by simp [hx]⟩)
  have HS := Lib.hid (fun i x (h : L[i]? = some x) => octs_take h)
  have HK := Lib.hid (fun i x (h : L[i]? = some x) => octsOk_take h)
  have HB := Lib.hid (fun i x (h : L[i]? = some x) hk => octsOk_bad h hk)
  have HZ : Hid (octsS (L.take 0) = ⟨#[]⟩ ∧ octsOk (L.take 0) = true) := Lib.hid ⟨rfl, rfl⟩
  have HF : Hid (octsS (L.take n) = octsS L ∧ octsOk (L.take n) = octsOk L) := Lib.hid (by rw [hn, List.take_length]; exact ⟨rfl, rfl⟩)
  have HLe : Hid (∀ i, i ≤ n → (octsS (L.take i)).size ≤ 20000) := Lib.hid (fun i _ => by have h8 := octsS_le (L.take i); rw [List.length_take] at h8; omega)
  have HP := Lib.hid (fun n width w => putOct_spec n width w)
  have HPl := Lib.hid putOct_le
  have HR : Hid (octsR L = if octsOk L then octsS L else ⟨#[]⟩) := Lib.hid rfl
  generalize octsR L = res at HR
  generalize octsOk L = ok at HF HB HR
  generalize octsS L = r at HF HR
  clear h1 h2 hn
  go_enter Tryz.func62, Tryz.ntmps62
  go_wp2_with fail
  go_loopw [6, 7, 8, 9] (fun v u _ _ wr => ∃ i : Nat, u = .int .i64 i ∧ i ≤ n ∧ octsOk (L.take i) = true ∧ v = .string (octsS (L.take i)) ∧ Below w.heap.size w wr) (fun _ u _ _ _ => n - (intOf u).toNat)
  case atStart => exact ⟨0, rfl, Nat.zero_le _, HZ.out.2, by rw [HZ.out.1], Below.refl _ _⟩
  case round =>
    obtain ⟨i, rfl, hi, hok, rfl, hb⟩ := hrel
    obtain ⟨w5, hw5⟩ : ∃ wo, wo = wr := ⟨_, rfl⟩
    subst hw5
    have B := Lib.hid hb
    have hszB := B.out.size
    have HOk := Lib.hid hok
    clear hb hok
    by_cases hlt : i < n
    · have hlt2 : (i : Int) < (n : Int) := by omega
      obtain ⟨⟨x, y⟩, hx, hx1, hx2⟩ := HG.out i hlt
      have HS2 := Lib.hid (HS.out i _ hx)
      have HK2 := Lib.hid (HK.out i _ hx)
      have HB2 := Lib.hid (HB.out i _ hx)
      simp only at HS2 HK2 HB2 hx1 hx2
      have hle := HLe.out i hi
      have hpl := HPl.out x y
      have KC : Hid (∀ w', Below w5.heap.size w5 w' → w'.cell? ⟨g, i, none⟩ = some (.int .i64 x) ∧ w'.cell? ⟨g2, i, none⟩ = some (.int .i64 y)) := Lib.hid (fun w' hb => ⟨(hb.cell (p := ⟨g, i, none⟩) (by simp; omega)).trans ((B.out.cell (p := ⟨g, i, none⟩) (by simp; omega)).trans (H1.out i x hx1)), (hb.cell (p := ⟨g2, i, none⟩) (by simp; omega)).trans ((B.out.cell (p := ⟨g2, i, none⟩) (by simp; omega)).trans (H2.out i y hx2))⟩)
      have HP2 := Lib.hid (fun w => HP.out x y w)
      clear hx hx1 hx2 HS HK HB HG HP
      obtain ⟨T, hT⟩ : ∃ T, octsS (L.take i) = T := ⟨_, rfl⟩
      rw [hT] at HS2 hle ⊢
      clear hT
      generalize (putOctv x y).1 = q at HS2 hpl HP2
      generalize (putOctv x y).2 = b at HB2 HK2 HP2
      go_upto_region 5 with fail
      refine wp_region_inv (by kernel_rfl) (fun w' => Below w5.heap.size w5 w') (fun x y => Below x.heap.size x y) (fun dq vq _ => match dq with | 17 => vq = .slice (some ⟨g, 0, none⟩) n n | 18 => vq = .int .i64 (i : Int) | 19 => vq = .pointer (some ⟨g, i, none⟩) | 20 => vq = .int .i64 x | 21 => vq = .slice (some ⟨g2, 0, none⟩) n n | 22 => vq = .int .i64 (i : Int) | 23 => vq = .pointer (some ⟨g2, i, none⟩) | 24 => vq = .int .i64 y | 25 => vq = .tuple #[.string q, .bool b] | 16 => vq = .tuple #[.string q, .bool b] | 26 => vq = .string q | 27 => vq = .bool b | 8 => vq = .string q | 9 => vq = .bool b | _ => True) (by kernel_rfl) ((Below.refl _ _).drew) (fun _ _ _ _ _ _ h => h) ?hops ?hend
      case hops =>
        simp only [List.forall_mem_cons]
        refine ⟨?o17, ?o18, ?o19, ?o20, ?o21, ?o22, ?o23, ?o24, ?o25, ?o16, ?o26, ?o27, ?o8, ?o9, fun _ h => by cases h⟩
        case o17 =>
          intro Q a w2 hC hV hI
          have e0 : a.eval (.tmp 0) = .slice (some ⟨g, 0, none⟩) n n := (hI 0 (by simp [Op.operands]) (by kernel_rfl)).trans rfl
          have f0 : a.tmps.getD 0 undef = .slice (some ⟨g, 0, none⟩) n n := e0
          have g0 : a.tmps[0]?.getD undef = .slice (some ⟨g, 0, none⟩) n n := by rw [← Array.getD_eq_getD_getElem?]; exact e0
          refine op_val (.slice (some ⟨g, 0, none⟩) n n) ?_ hC (Below.refl _ _) (by intro d hd; cases hd; rfl)
          (clear hV hI hC; go_simp <;> (first | rfl | simp | (rw [IntKind.wrap_i64]; omega)))
        case o18 =>
          intro Q a w2 hC hV hI
          have e7 : a.eval (.tmp 7) = .int .i64 (i : Int) := (hI 7 (by simp [Op.operands]) (by kernel_rfl)).trans rfl
          have f7 : a.tmps.getD 7 undef = .int .i64 (i : Int) := e7
          have g7 : a.tmps[7]?.getD undef = .int .i64 (i : Int) := by rw [← Array.getD_eq_getD_getElem?]; exact e7
          refine op_val (.int .i64 (i : Int)) ?_ hC (Below.refl _ _) (by intro d hd; cases hd; rfl)
          (clear hV hI hC; go_simp <;> (first | rfl | simp | (rw [IntKind.wrap_i64]; omega)))
        case o19 =>
          intro Q a w2 hC hV hI
          have e17 : a.eval (.tmp 17) = .slice (some ⟨g, 0, none⟩) n n := hV 17 (by simp [Op.operands]) (by kernel_rfl)
          have f17 : a.tmps.getD 17 undef = .slice (some ⟨g, 0, none⟩) n n := e17
          have g17 : a.tmps[17]?.getD undef = .slice (some ⟨g, 0, none⟩) n n := by rw [← Array.getD_eq_getD_getElem?]; exact e17
          have e18 : a.eval (.tmp 18) = .int .i64 (i : Int) := hV 18 (by simp [Op.operands]) (by kernel_rfl)
          have f18 : a.tmps.getD 18 undef = .int .i64 (i : Int) := e18
          have g18 : a.tmps[18]?.getD undef = .int .i64 (i : Int) := by rw [← Array.getD_eq_getD_getElem?]; exact e18
          refine op_val (.pointer (some ⟨g, i, none⟩)) ?_ hC (Below.refl _ _) (by intro d hd; cases hd; rfl)
          (clear hV hI hC; go_simp <;> (first | rfl | simp | (rw [IntKind.wrap_i64]; omega)))
        case o20 =>
          intro Q a w2 hC hV hI
          have e19 : a.eval (.tmp 19) = .pointer (some ⟨g, i, none⟩) := hV 19 (by simp [Op.operands]) (by kernel_rfl)
          have f19 : a.tmps.getD 19 undef = .pointer (some ⟨g, i, none⟩) := e19
          have g19 : a.tmps[19]?.getD undef = .pointer (some ⟨g, i, none⟩) := by rw [← Array.getD_eq_getD_getElem?]; exact e19
          have hK := KC.out w2 hC
          refine op_val (.int .i64 x) ?_ hC (Below.refl _ _) (by intro d hd; cases hd; rfl)
          (clear hV hI hC; go_simp <;> (first | rfl | simp | (rw [IntKind.wrap_i64]; omega)))
        case o21 =>
          intro Q a w2 hC hV hI
          have e1 : a.eval (.tmp 1) = .slice (some ⟨g2, 0, none⟩) n n := (hI 1 (by simp [Op.operands]) (by kernel_rfl)).trans rfl
          have f1 : a.tmps.getD 1 undef = .slice (some ⟨g2, 0, none⟩) n n := e1
          have g1 : a.tmps[1]?.getD undef = .slice (some ⟨g2, 0, none⟩) n n := by rw [← Array.getD_eq_getD_getElem?]; exact e1
          refine op_val (.slice (some ⟨g2, 0, none⟩) n n) ?_ hC (Below.refl _ _) (by intro d hd; cases hd; rfl)
          (clear hV hI hC; go_simp <;> (first | rfl | simp | (rw [IntKind.wrap_i64]; omega)))
        case o22 =>
          intro Q a w2 hC hV hI
          have e7 : a.eval (.tmp 7) = .int .i64 (i : Int) := (hI 7 (by simp [Op.operands]) (by kernel_rfl)).trans rfl
          have f7 : a.tmps.getD 7 undef = .int .i64 (i : Int) := e7
          have g7 : a.tmps[7]?.getD undef = .int .i64 (i : Int) := by rw [← Array.getD_eq_getD_getElem?]; exact e7
          refine op_val (.int .i64 (i : Int)) ?_ hC (Below.refl _ _) (by intro d hd; cases hd; rfl)
          (clear hV hI hC; go_simp <;> (first | rfl | simp | (rw [IntKind.wrap_i64]; omega)))
        case o23 =>
          intro Q a w2 hC hV hI
          have e21 : a.eval (.tmp 21) = .slice (some ⟨g2, 0, none⟩) n n := hV 21 (by simp [Op.operands]) (by kernel_rfl)
          have f21 : a.tmps.getD 21 undef = .slice (some ⟨g2, 0, none⟩) n n := e21
          have g21 : a.tmps[21]?.getD undef = .slice (some ⟨g2, 0, none⟩) n n := by rw [← Array.getD_eq_getD_getElem?]; exact e21
          have e22 : a.eval (.tmp 22) = .int .i64 (i : Int) := hV 22 (by simp [Op.operands]) (by kernel_rfl)
          have f22 : a.tmps.getD 22 undef = .int .i64 (i : Int) := e22
          have g22 : a.tmps[22]?.getD undef = .int .i64 (i : Int) := by rw [← Array.getD_eq_getD_getElem?]; exact e22
          refine op_val (.pointer (some ⟨g2, i, none⟩)) ?_ hC (Below.refl _ _) (by intro d hd; cases hd; rfl)
          (clear hV hI hC; go_simp <;> (first | rfl | simp | (rw [IntKind.wrap_i64]; omega)))
        case o24 =>
          intro Q a w2 hC hV hI
          have e23 : a.eval (.tmp 23) = .pointer (some ⟨g2, i, none⟩) := hV 23 (by simp [Op.operands]) (by kernel_rfl)
          have f23 : a.tmps.getD 23 undef = .pointer (some ⟨g2, i, none⟩) := e23
          have g23 : a.tmps[23]?.getD undef = .pointer (some ⟨g2, i, none⟩) := by rw [← Array.getD_eq_getD_getElem?]; exact e23
          have hK := KC.out w2 hC
          refine op_val (.int .i64 y) ?_ hC (Below.refl _ _) (by intro d hd; cases hd; rfl)
          (clear hV hI hC; go_simp <;> (first | rfl | simp | (rw [IntKind.wrap_i64]; omega)))
        case o25 =>
          intro Q a w2 hC hV hI
          have e20 : a.eval (.tmp 20) = .int .i64 x := hV 20 (by simp [Op.operands, Call.operands]) (by kernel_rfl)
          have f20 : a.tmps.getD 20 undef = .int .i64 x := e20
          have g20 : a.tmps[20]?.getD undef = .int .i64 x := by rw [← Array.getD_eq_getD_getElem?]; exact e20
          have e24 : a.eval (.tmp 24) = .int .i64 y := hV 24 (by simp [Op.operands, Call.operands]) (by kernel_rfl)
          have f24 : a.tmps.getD 24 undef = .int .i64 y := e24
          have g24 : a.tmps[24]?.getD undef = .int .i64 y := by rw [← Array.getD_eq_getD_getElem?]; exact e24
          refine op_call (f := 108) (args := #[.int .i64 x, .int .i64 y]) (R := fun v y => v = .tuple #[.string q, .bool b] ∧ w2 = y) ?_ ((HP2.out w2).mono ?_) ?_
          · (clear hV hI hC; go_simp <;> (first | rfl | simp | (rw [IntKind.wrap_i64]; omega)))
          · rintro e y ⟨rfl, rfl⟩; exact ⟨_, rfl, rfl, rfl⟩
          · rintro v y ⟨rfl, rfl⟩; exact ⟨hC, Below.refl _ _, by intro d hd; cases hd; rfl⟩
        case o16 =>
          intro Q a w2 hC hV hI
          have e25 : a.eval (.tmp 25) = .tuple #[.string q, .bool b] := hV 25 (by simp [Op.operands]) (by kernel_rfl)
          have f25 : a.tmps.getD 25 undef = .tuple #[.string q, .bool b] := e25
          have g25 : a.tmps[25]?.getD undef = .tuple #[.string q, .bool b] := by rw [← Array.getD_eq_getD_getElem?]; exact e25
          refine op_val (.tuple #[.string q, .bool b]) ?_ hC (Below.refl _ _) (by intro d hd; cases hd; rfl)
          (clear hV hI hC; go_simp <;> (first | rfl | simp | (rw [IntKind.wrap_i64]; omega)))
        case o26 =>
          intro Q a w2 hC hV hI
          have e16 : a.eval (.tmp 16) = .tuple #[.string q, .bool b] := hV 16 (by simp [Op.operands]) (by kernel_rfl)
          have f16 : a.tmps.getD 16 undef = .tuple #[.string q, .bool b] := e16
          have g16 : a.tmps[16]?.getD undef = .tuple #[.string q, .bool b] := by rw [← Array.getD_eq_getD_getElem?]; exact e16
          refine op_val (.string q) ?_ hC (Below.refl _ _) (by intro d hd; cases hd; rfl)
          (clear hV hI hC; go_simp <;> (first | rfl | simp | (rw [IntKind.wrap_i64]; omega)))
        case o27 =>
          intro Q a w2 hC hV hI
          have e16 : a.eval (.tmp 16) = .tuple #[.string q, .bool b] := hV 16 (by simp [Op.operands]) (by kernel_rfl)
          have f16 : a.tmps.getD 16 undef = .tuple #[.string q, .bool b] := e16
          have g16 : a.tmps[16]?.getD undef = .tuple #[.string q, .bool b] := by rw [← Array.getD_eq_getD_getElem?]; exact e16
          refine op_val (.bool b) ?_ hC (Below.refl _ _) (by intro d hd; cases hd; rfl)
          (clear hV hI hC; go_simp <;> (first | rfl | simp | (rw [IntKind.wrap_i64]; omega)))
        case o8 =>
          intro Q a w2 hC hV hI
          have e26 : a.eval (.tmp 26) = .string q := hV 26 (by simp [Op.operands]) (by kernel_rfl)
          have f26 : a.tmps.getD 26 undef = .string q := e26
          have g26 : a.tmps[26]?.getD undef = .string q := by rw [← Array.getD_eq_getD_getElem?]; exact e26
          refine op_val (.string q) ?_ hC (Below.refl _ _) (by intro d hd; cases hd; rfl)
          (clear hV hI hC; go_simp <;> (first | rfl | simp | (rw [IntKind.wrap_i64]; omega)))
        case o9 =>
          intro Q a w2 hC hV hI
          have e27 : a.eval (.tmp 27) = .bool b := hV 27 (by simp [Op.operands]) (by kernel_rfl)
          have f27 : a.tmps.getD 27 undef = .bool b := e27
          have g27 : a.tmps[27]?.getD undef = .bool b := by rw [← Array.getD_eq_getD_getElem?]; exact e27
          refine op_val (.bool b) ?_ hC (Below.refl _ _) (by intro d hd; cases hd; rfl)
          (clear hV hI hC; go_simp <;> (first | rfl | simp | (rw [IntKind.wrap_i64]; omega)))
      case hend =>
        intro f w6 hC hall
        simp only [List.forall_mem_cons] at hall
        obtain ⟨h17, h18, h19, h20, h21, h22, h23, h24, h25, h16, h26, h27, h8, h9, _⟩ := hall
        replace h17 : f 17 = .slice (some ⟨g, 0, none⟩) n n := h17 17 rfl
        replace h18 : f 18 = .int .i64 (i : Int) := h18 18 rfl
        replace h19 : f 19 = .pointer (some ⟨g, i, none⟩) := h19 19 rfl
        replace h20 : f 20 = .int .i64 x := h20 20 rfl
        replace h21 : f 21 = .slice (some ⟨g2, 0, none⟩) n n := h21 21 rfl
        replace h22 : f 22 = .int .i64 (i : Int) := h22 22 rfl
        replace h23 : f 23 = .pointer (some ⟨g2, i, none⟩) := h23 23 rfl
        replace h24 : f 24 = .int .i64 y := h24 24 rfl
        replace h25 : f 25 = .tuple #[.string q, .bool b] := h25 25 rfl
        replace h16 : f 16 = .tuple #[.string q, .bool b] := h16 16 rfl
        replace h26 : f 26 = .string q := h26 26 rfl
        replace h27 : f 27 = .bool b := h27 27 rfl
        replace h8 : f 8 = .string q := h8 8 rfl
        replace h9 : f 9 = .bool b := h9 9 rfl
        simp only [putAll, Act.put, List.setIfInBounds_toArray, List.set_cons_succ, List.set_cons_zero, h17, h18, h19, h20, h21, h22, h23, h24, h25, h16, h26, h27, h8, h9]
        clear h17 h18 h19 h20 h21 h22 h23 h24 h25 h16 h26 h27 h8 h9
        clear KC HP2
        replace B := Lib.hid (B.out.trans (hC.mono hszB))
        cases b with
        | false =>
          have HF2 : Hid (ok = false) := Lib.hid (HB2.out rfl)
          have HF3 : Hid (res = ⟨#[]⟩) := Lib.hid (by rw [HR.out, HF2.out]; rfl)
          clear HS2 HK2 HB2 hC
          go_wp2_with fail
          go_ret2
          exact ⟨by rw [HF2.out, HF3.out]; rfl, B.out⟩
        | true =>
          have HOk2 : Hid (octsOk (L.take (i + 1)) = true) := Lib.hid (by rw [HK2.out, HOk.out]; rfl)
          have hsz : T.size + q.size ≤ 281474976710656 := by omega
          have HA : Hid (∀ w, (Op.stringOp .add T q).run Tryz.prog w = .ok (.string (T ++ q)) w) := Lib.hid (fun w => run_string_add_sum w _ _ (by omega))
          have HA' := HA.out
          clear HB2 HK2 hC
          go_wp2_with fail
          go_roundw
          case rel => exact ⟨i + 1, by go_num, by omega, HOk2.out, by rw [HS2.out], B.out⟩
          case measure => simp [intOf]; omega
    · obtain rfl : i = n := by omega
      have hlt2 : ¬ (i : Int) < (i : Int) := by omega
      have HR9 := HF.out.2
      rw [HOk.out] at HR9
      have HR2 := Lib.hid HR9
      have HR3 : Hid (res = octsS (L.take i)) := Lib.hid (by rw [HR.out, ← HR9, HF.out.1]; rfl)
      clear HR9
      go_wp2_with fail
      go_ret2
      exact ⟨by rw [← HR2.out, HR3.out]; rfl, B.out⟩
theorem octsR_true {L : List (Int × Int)} (h : octsOk L = true) : octsR L = octsS L := by rw [octsR, if_pos h]
set_option maxHeartbeats 3200000 in
set_option maxRecDepth 8000 in
theorem putCard_spec (ino mo u1 gi cn t : Int) (p d : ByteArray) (w : World) (hp : p.size ≤ 4194304) (hd : d.size ≤ 4194304) :
    Calls Tryz.prog 34 #[.agg #[.int .i64 ino, .int .i64 mo, .int .i64 u1, .int .i64 gi, .int .i64 cn, .int .i64 t, .string p, .string d]] w fun e w' => e = .returned (.string (cardTextv ⟨ino, mo, u1, gi, cn, t, p, d⟩)) ∧ Below w.heap.size w w' := by
  have HO := Lib.hid (fun g g2 w hg hg2 (h1 : RowN w g [0, ino, mo, u1, gi, cn, 0, t, (p.size : Int) + 1, (d.size : Int)]) (h2 : RowN w g2 wideC) => octs_spec (flds ⟨ino, mo, u1, gi, cn, t, p, d⟩) 10 g g2 w rfl (by omega) hg hg2 h1 h2)
  have hle := octsS_le (flds ⟨ino, mo, u1, gi, cn, t, p, d⟩)
  have hln : (flds ⟨ino, mo, u1, gi, cn, t, p, d⟩).length = 10 := rfl
  have HT : Hid (octsOk (flds ⟨ino, mo, u1, gi, cn, t, p, d⟩) = true → octsR (flds ⟨ino, mo, u1, gi, cn, t, p, d⟩) = octsS (flds ⟨ino, mo, u1, gi, cn, t, p, d⟩)) := Lib.hid octsR_true
  have HV : Hid (cardTextv ⟨ino, mo, u1, gi, cn, t, p, d⟩ = if octsOk (flds ⟨ino, mo, u1, gi, cn, t, p, d⟩) then ⟨#[48, 55, 48, 55, 48, 55]⟩ ++ octsS (flds ⟨ino, mo, u1, gi, cn, t, p, d⟩) ++ p ++ ⟨#[0]⟩ ++ d else ⟨#[]⟩) := Lib.hid rfl
  generalize cardTextv ⟨ino, mo, u1, gi, cn, t, p, d⟩ = r at HV
  generalize octsR (flds ⟨ino, mo, u1, gi, cn, t, p, d⟩) = rs at HO HT
  generalize octsOk (flds ⟨ino, mo, u1, gi, cn, t, p, d⟩) = ok at HO HT HV
  generalize octsS (flds ⟨ino, mo, u1, gi, cn, t, p, d⟩) = os at HT HV hle
  have hos : os.size ≤ 200 := by omega
  clear hln hle
  go_enter Tryz.func34, Tryz.ntmps34
  go_upto_region 1 with fail
  generalize hw1 : World.alloc w _ = w1
  have XC : Hid (CardO w1 w.heap.size ⟨ino, mo, u1, gi, cn, t, p, d⟩) := Lib.hid (by rw [← hw1]; exact CardO.new w ⟨ino, mo, u1, gi, cn, t, p, d⟩)
  have B1 : Hid (Below w.heap.size w w1) := Lib.hid (by rw [← hw1]; exact (Below.refl _ _).alloc (Nat.le_refl _) _)
  have hs1 : w1.heap.size = w.heap.size + 1 := by rw [← hw1]; simp
  clear hw1
  have KC : Hid (∀ w', Below w1.heap.size w1 w' → w'.cell? ⟨w.heap.size, 0, none⟩ = some (.int .i64 ino) ∧ w'.cell? ⟨w.heap.size, 1, none⟩ = some (.int .i64 mo) ∧ w'.cell? ⟨w.heap.size, 2, none⟩ = some (.int .i64 u1) ∧ w'.cell? ⟨w.heap.size, 3, none⟩ = some (.int .i64 gi) ∧ w'.cell? ⟨w.heap.size, 4, none⟩ = some (.int .i64 cn) ∧ w'.cell? ⟨w.heap.size, 5, none⟩ = some (.int .i64 t) ∧ w'.cell? ⟨w.heap.size, 6, none⟩ = some (.string p) ∧ w'.cell? ⟨w.heap.size, 7, none⟩ = some (.string d)) := Lib.hid (fun w' hb => (XC.out.below hb (by omega)).at.zero)
  refine wp_region_inv (by kernel_rfl) (fun w' => Below w1.heap.size w1 w') (fun x y => Below x.heap.size x y) (vE 26 (exRow w1.heap.size 10 #[.int .i64 6, .int .i64 6, .int .i64 6, .int .i64 6, .int .i64 6, .int .i64 6, .int .i64 6, .int .i64 11, .int .i64 6, .int .i64 11] 3) (vE 25 (exRow w1.heap.size 10 #[.int .i64 0, .int .i64 ino, .int .i64 mo, .int .i64 u1, .int .i64 gi, .int .i64 cn, .int .i64 0, .int .i64 t, .int .i64 ((p.size : Int) + 1), .int .i64 (d.size : Int)] 3) (fun dq vq _ => match dq with | 6 => vq = .pointer (some ⟨w.heap.size, 0, none⟩) | 7 => vq = .int .i64 ino | 8 => vq = .pointer (some ⟨w.heap.size, 1, none⟩) | 9 => vq = .int .i64 mo | 10 => vq = .pointer (some ⟨w.heap.size, 2, none⟩) | 11 => vq = .int .i64 u1 | 12 => vq = .pointer (some ⟨w.heap.size, 3, none⟩) | 13 => vq = .int .i64 gi | 14 => vq = .pointer (some ⟨w.heap.size, 4, none⟩) | 15 => vq = .int .i64 cn | 16 => vq = .pointer (some ⟨w.heap.size, 5, none⟩) | 17 => vq = .int .i64 t | 18 => vq = .pointer (some ⟨w.heap.size, 6, none⟩) | 19 => vq = .string p | 20 => vq = .int .i64 (p.size : Int) | 21 => vq = .int .i64 ((p.size : Int) + 1) | 22 => vq = .pointer (some ⟨w.heap.size, 7, none⟩) | 23 => vq = .string d | 24 => vq = .int .i64 (d.size : Int) | 27 => vq = .tuple #[.string rs, .bool ok] | 5 => vq = .tuple #[.string rs, .bool ok] | 28 => vq = .string rs | 29 => vq = .bool ok | 3 => vq = .string rs | 4 => vq = .bool ok | _ => True))) (by kernel_rfl) ((Below.refl _ _).drew) (vE_keep _ _ _ (exRow_keep _ _ _ _) (vE_keep _ _ _ (exRow_keep _ _ _ _) (fun _ _ _ _ _ _ h => h))) ?hops ?hend
  case hops =>
    simp only [List.forall_mem_cons]
    refine ⟨?o6, ?o7, ?o8, ?o9, ?o10, ?o11, ?o12, ?o13, ?o14, ?o15, ?o16, ?o17, ?o18, ?o19, ?o20, ?o21, ?o22, ?o23, ?o24, ?o25, ?o26, ?o27, ?o5, ?o28, ?o29, ?o3, ?o4, fun _ h => by cases h⟩
    case o6 =>
      intro Q a w2 hC hV hI
      have e1 : a.eval (.tmp 1) = .pointer (some ⟨w.heap.size, 0, none⟩) := (hI 1 (by simp [Op.operands]) (by kernel_rfl)).trans rfl
      have f1 : a.tmps.getD 1 undef = .pointer (some ⟨w.heap.size, 0, none⟩) := e1
      have g1 : a.tmps[1]?.getD undef = .pointer (some ⟨w.heap.size, 0, none⟩) := by rw [← Array.getD_eq_getD_getElem?]; exact e1
      refine op_val (.pointer (some ⟨w.heap.size, 0, none⟩)) ?_ hC (Below.refl _ _) (by intro d hd; cases hd; exact rfl)
      (clear hV hI hC; go_simp <;> (first | rfl | simp | (rw [IntKind.wrap_i64]; omega)))
    case o7 =>
      intro Q a w2 hC hV hI
      have e6 : a.eval (.tmp 6) = .pointer (some ⟨w.heap.size, 0, none⟩) := hV 6 (by simp [Op.operands]) (by kernel_rfl)
      have f6 : a.tmps.getD 6 undef = .pointer (some ⟨w.heap.size, 0, none⟩) := e6
      have g6 : a.tmps[6]?.getD undef = .pointer (some ⟨w.heap.size, 0, none⟩) := by rw [← Array.getD_eq_getD_getElem?]; exact e6
      have hK := KC.out w2 hC
      refine op_val (.int .i64 ino) ?_ hC (Below.refl _ _) (by intro d hd; cases hd; exact rfl)
      (clear hV hI hC; go_simp <;> (first | rfl | simp | (rw [IntKind.wrap_i64]; omega)))
    case o8 =>
      intro Q a w2 hC hV hI
      have e1 : a.eval (.tmp 1) = .pointer (some ⟨w.heap.size, 0, none⟩) := (hI 1 (by simp [Op.operands]) (by kernel_rfl)).trans rfl
      have f1 : a.tmps.getD 1 undef = .pointer (some ⟨w.heap.size, 0, none⟩) := e1
      have g1 : a.tmps[1]?.getD undef = .pointer (some ⟨w.heap.size, 0, none⟩) := by rw [← Array.getD_eq_getD_getElem?]; exact e1
      refine op_val (.pointer (some ⟨w.heap.size, 1, none⟩)) ?_ hC (Below.refl _ _) (by intro d hd; cases hd; exact rfl)
      (clear hV hI hC; go_simp <;> (first | rfl | simp | (rw [IntKind.wrap_i64]; omega)))
    case o9 =>
      intro Q a w2 hC hV hI
      have e8 : a.eval (.tmp 8) = .pointer (some ⟨w.heap.size, 1, none⟩) := hV 8 (by simp [Op.operands]) (by kernel_rfl)
      have f8 : a.tmps.getD 8 undef = .pointer (some ⟨w.heap.size, 1, none⟩) := e8
      have g8 : a.tmps[8]?.getD undef = .pointer (some ⟨w.heap.size, 1, none⟩) := by rw [← Array.getD_eq_getD_getElem?]; exact e8
      have hK := KC.out w2 hC
      refine op_val (.int .i64 mo) ?_ hC (Below.refl _ _) (by intro d hd; cases hd; exact rfl)
      (clear hV hI hC; go_simp <;> (first | rfl | simp | (rw [IntKind.wrap_i64]; omega)))
    case o10 =>
      intro Q a w2 hC hV hI
      have e1 : a.eval (.tmp 1) = .pointer (some ⟨w.heap.size, 0, none⟩) := (hI 1 (by simp [Op.operands]) (by kernel_rfl)).trans rfl
      have f1 : a.tmps.getD 1 undef = .pointer (some ⟨w.heap.size, 0, none⟩) := e1
      have g1 : a.tmps[1]?.getD undef = .pointer (some ⟨w.heap.size, 0, none⟩) := by rw [← Array.getD_eq_getD_getElem?]; exact e1
      refine op_val (.pointer (some ⟨w.heap.size, 2, none⟩)) ?_ hC (Below.refl _ _) (by intro d hd; cases hd; exact rfl)
      (clear hV hI hC; go_simp <;> (first | rfl | simp | (rw [IntKind.wrap_i64]; omega)))
    case o11 =>
      intro Q a w2 hC hV hI
      have e10 : a.eval (.tmp 10) = .pointer (some ⟨w.heap.size, 2, none⟩) := hV 10 (by simp [Op.operands]) (by kernel_rfl)
      have f10 : a.tmps.getD 10 undef = .pointer (some ⟨w.heap.size, 2, none⟩) := e10
      have g10 : a.tmps[10]?.getD undef = .pointer (some ⟨w.heap.size, 2, none⟩) := by rw [← Array.getD_eq_getD_getElem?]; exact e10
      have hK := KC.out w2 hC
      refine op_val (.int .i64 u1) ?_ hC (Below.refl _ _) (by intro d hd; cases hd; exact rfl)
      (clear hV hI hC; go_simp <;> (first | rfl | simp | (rw [IntKind.wrap_i64]; omega)))
    case o12 =>
      intro Q a w2 hC hV hI
      have e1 : a.eval (.tmp 1) = .pointer (some ⟨w.heap.size, 0, none⟩) := (hI 1 (by simp [Op.operands]) (by kernel_rfl)).trans rfl
      have f1 : a.tmps.getD 1 undef = .pointer (some ⟨w.heap.size, 0, none⟩) := e1
      have g1 : a.tmps[1]?.getD undef = .pointer (some ⟨w.heap.size, 0, none⟩) := by rw [← Array.getD_eq_getD_getElem?]; exact e1
      refine op_val (.pointer (some ⟨w.heap.size, 3, none⟩)) ?_ hC (Below.refl _ _) (by intro d hd; cases hd; exact rfl)
      (clear hV hI hC; go_simp <;> (first | rfl | simp | (rw [IntKind.wrap_i64]; omega)))
    case o13 =>
      intro Q a w2 hC hV hI
      have e12 : a.eval (.tmp 12) = .pointer (some ⟨w.heap.size, 3, none⟩) := hV 12 (by simp [Op.operands]) (by kernel_rfl)
      have f12 : a.tmps.getD 12 undef = .pointer (some ⟨w.heap.size, 3, none⟩) := e12
      have g12 : a.tmps[12]?.getD undef = .pointer (some ⟨w.heap.size, 3, none⟩) := by rw [← Array.getD_eq_getD_getElem?]; exact e12
      have hK := KC.out w2 hC
      refine op_val (.int .i64 gi) ?_ hC (Below.refl _ _) (by intro d hd; cases hd; exact rfl)
      (clear hV hI hC; go_simp <;> (first | rfl | simp | (rw [IntKind.wrap_i64]; omega)))
    case o14 =>
      intro Q a w2 hC hV hI
      have e1 : a.eval (.tmp 1) = .pointer (some ⟨w.heap.size, 0, none⟩) := (hI 1 (by simp [Op.operands]) (by kernel_rfl)).trans rfl
      have f1 : a.tmps.getD 1 undef = .pointer (some ⟨w.heap.size, 0, none⟩) := e1
      have g1 : a.tmps[1]?.getD undef = .pointer (some ⟨w.heap.size, 0, none⟩) := by rw [← Array.getD_eq_getD_getElem?]; exact e1
      refine op_val (.pointer (some ⟨w.heap.size, 4, none⟩)) ?_ hC (Below.refl _ _) (by intro d hd; cases hd; exact rfl)
      (clear hV hI hC; go_simp <;> (first | rfl | simp | (rw [IntKind.wrap_i64]; omega)))
    case o15 =>
      intro Q a w2 hC hV hI
      have e14 : a.eval (.tmp 14) = .pointer (some ⟨w.heap.size, 4, none⟩) := hV 14 (by simp [Op.operands]) (by kernel_rfl)
      have f14 : a.tmps.getD 14 undef = .pointer (some ⟨w.heap.size, 4, none⟩) := e14
      have g14 : a.tmps[14]?.getD undef = .pointer (some ⟨w.heap.size, 4, none⟩) := by rw [← Array.getD_eq_getD_getElem?]; exact e14
      have hK := KC.out w2 hC
      refine op_val (.int .i64 cn) ?_ hC (Below.refl _ _) (by intro d hd; cases hd; exact rfl)
      (clear hV hI hC; go_simp <;> (first | rfl | simp | (rw [IntKind.wrap_i64]; omega)))
    case o16 =>
      intro Q a w2 hC hV hI
      have e1 : a.eval (.tmp 1) = .pointer (some ⟨w.heap.size, 0, none⟩) := (hI 1 (by simp [Op.operands]) (by kernel_rfl)).trans rfl
      have f1 : a.tmps.getD 1 undef = .pointer (some ⟨w.heap.size, 0, none⟩) := e1
      have g1 : a.tmps[1]?.getD undef = .pointer (some ⟨w.heap.size, 0, none⟩) := by rw [← Array.getD_eq_getD_getElem?]; exact e1
      refine op_val (.pointer (some ⟨w.heap.size, 5, none⟩)) ?_ hC (Below.refl _ _) (by intro d hd; cases hd; exact rfl)
      (clear hV hI hC; go_simp <;> (first | rfl | simp | (rw [IntKind.wrap_i64]; omega)))
    case o17 =>
      intro Q a w2 hC hV hI
      have e16 : a.eval (.tmp 16) = .pointer (some ⟨w.heap.size, 5, none⟩) := hV 16 (by simp [Op.operands]) (by kernel_rfl)
      have f16 : a.tmps.getD 16 undef = .pointer (some ⟨w.heap.size, 5, none⟩) := e16
      have g16 : a.tmps[16]?.getD undef = .pointer (some ⟨w.heap.size, 5, none⟩) := by rw [← Array.getD_eq_getD_getElem?]; exact e16
      have hK := KC.out w2 hC
      refine op_val (.int .i64 t) ?_ hC (Below.refl _ _) (by intro d hd; cases hd; exact rfl)
      (clear hV hI hC; go_simp <;> (first | rfl | simp | (rw [IntKind.wrap_i64]; omega)))
    case o18 =>
      intro Q a w2 hC hV hI
      have e1 : a.eval (.tmp 1) = .pointer (some ⟨w.heap.size, 0, none⟩) := (hI 1 (by simp [Op.operands]) (by kernel_rfl)).trans rfl
      have f1 : a.tmps.getD 1 undef = .pointer (some ⟨w.heap.size, 0, none⟩) := e1
      have g1 : a.tmps[1]?.getD undef = .pointer (some ⟨w.heap.size, 0, none⟩) := by rw [← Array.getD_eq_getD_getElem?]; exact e1
      refine op_val (.pointer (some ⟨w.heap.size, 6, none⟩)) ?_ hC (Below.refl _ _) (by intro d hd; cases hd; exact rfl)
      (clear hV hI hC; go_simp <;> (first | rfl | simp | (rw [IntKind.wrap_i64]; omega)))
    case o19 =>
      intro Q a w2 hC hV hI
      have e18 : a.eval (.tmp 18) = .pointer (some ⟨w.heap.size, 6, none⟩) := hV 18 (by simp [Op.operands]) (by kernel_rfl)
      have f18 : a.tmps.getD 18 undef = .pointer (some ⟨w.heap.size, 6, none⟩) := e18
      have g18 : a.tmps[18]?.getD undef = .pointer (some ⟨w.heap.size, 6, none⟩) := by rw [← Array.getD_eq_getD_getElem?]; exact e18
      have hK := KC.out w2 hC
      refine op_val (.string p) ?_ hC (Below.refl _ _) (by intro d hd; cases hd; exact rfl)
      (clear hV hI hC; go_simp <;> (first | rfl | simp | (rw [IntKind.wrap_i64]; omega)))
    case o20 =>
      intro Q a w2 hC hV hI
      have e19 : a.eval (.tmp 19) = .string p := hV 19 (by simp [Op.operands, Call.operands]) (by kernel_rfl)
      have f19 : a.tmps.getD 19 undef = .string p := e19
      have g19 : a.tmps[19]?.getD undef = .string p := by rw [← Array.getD_eq_getD_getElem?]; exact e19
      refine op_val (.int .i64 (p.size : Int)) ?_ hC (Below.refl _ _) (by intro d hd; cases hd; exact rfl)
      (clear hV hI hC; go_simp <;> (first | rfl | simp | (rw [IntKind.wrap_i64]; omega)))
    case o21 =>
      intro Q a w2 hC hV hI
      have e20 : a.eval (.tmp 20) = .int .i64 (p.size : Int) := hV 20 (by simp [Op.operands]) (by kernel_rfl)
      have f20 : a.tmps.getD 20 undef = .int .i64 (p.size : Int) := e20
      have g20 : a.tmps[20]?.getD undef = .int .i64 (p.size : Int) := by rw [← Array.getD_eq_getD_getElem?]; exact e20
      have q9 := add_i64 (P := Tryz.prog) (a := (p.size : Int)) (b := 1) w2 3 (by omega) (by omega)
      refine op_val (.int .i64 ((p.size : Int) + 1)) ?_ hC (Below.refl _ _) (by intro d hd; cases hd; exact rfl)
      (clear hV hI hC; go_simp <;> (first | rfl | simp | (rw [IntKind.wrap_i64]; omega)))
    case o22 =>
      intro Q a w2 hC hV hI
      have e1 : a.eval (.tmp 1) = .pointer (some ⟨w.heap.size, 0, none⟩) := (hI 1 (by simp [Op.operands]) (by kernel_rfl)).trans rfl
      have f1 : a.tmps.getD 1 undef = .pointer (some ⟨w.heap.size, 0, none⟩) := e1
      have g1 : a.tmps[1]?.getD undef = .pointer (some ⟨w.heap.size, 0, none⟩) := by rw [← Array.getD_eq_getD_getElem?]; exact e1
      refine op_val (.pointer (some ⟨w.heap.size, 7, none⟩)) ?_ hC (Below.refl _ _) (by intro d hd; cases hd; exact rfl)
      (clear hV hI hC; go_simp <;> (first | rfl | simp | (rw [IntKind.wrap_i64]; omega)))
    case o23 =>
      intro Q a w2 hC hV hI
      have e22 : a.eval (.tmp 22) = .pointer (some ⟨w.heap.size, 7, none⟩) := hV 22 (by simp [Op.operands]) (by kernel_rfl)
      have f22 : a.tmps.getD 22 undef = .pointer (some ⟨w.heap.size, 7, none⟩) := e22
      have g22 : a.tmps[22]?.getD undef = .pointer (some ⟨w.heap.size, 7, none⟩) := by rw [← Array.getD_eq_getD_getElem?]; exact e22
      have hK := KC.out w2 hC
      refine op_val (.string d) ?_ hC (Below.refl _ _) (by intro d hd; cases hd; exact rfl)
      (clear hV hI hC; go_simp <;> (first | rfl | simp | (rw [IntKind.wrap_i64]; omega)))
    case o24 =>
      intro Q a w2 hC hV hI
      have e23 : a.eval (.tmp 23) = .string d := hV 23 (by simp [Op.operands, Call.operands]) (by kernel_rfl)
      have f23 : a.tmps.getD 23 undef = .string d := e23
      have g23 : a.tmps[23]?.getD undef = .string d := by rw [← Array.getD_eq_getD_getElem?]; exact e23
      refine op_val (.int .i64 (d.size : Int)) ?_ hC (Below.refl _ _) (by intro d hd; cases hd; exact rfl)
      (clear hV hI hC; go_simp <;> (first | rfl | simp | (rw [IntKind.wrap_i64]; omega)))
    case o25 =>
      intro Q a w2 hC hV hI
      have e7 : a.eval (.tmp 7) = .int .i64 ino := hV 7 (by simp [Op.operands]) (by kernel_rfl)
      have f7 : a.tmps.getD 7 undef = .int .i64 ino := e7
      have g7 : a.tmps[7]?.getD undef = .int .i64 ino := by rw [← Array.getD_eq_getD_getElem?]; exact e7
      have e9 : a.eval (.tmp 9) = .int .i64 mo := hV 9 (by simp [Op.operands]) (by kernel_rfl)
      have f9 : a.tmps.getD 9 undef = .int .i64 mo := e9
      have g9 : a.tmps[9]?.getD undef = .int .i64 mo := by rw [← Array.getD_eq_getD_getElem?]; exact e9
      have e11 : a.eval (.tmp 11) = .int .i64 u1 := hV 11 (by simp [Op.operands]) (by kernel_rfl)
      have f11 : a.tmps.getD 11 undef = .int .i64 u1 := e11
      have g11 : a.tmps[11]?.getD undef = .int .i64 u1 := by rw [← Array.getD_eq_getD_getElem?]; exact e11
      have e13 : a.eval (.tmp 13) = .int .i64 gi := hV 13 (by simp [Op.operands]) (by kernel_rfl)
      have f13 : a.tmps.getD 13 undef = .int .i64 gi := e13
      have g13 : a.tmps[13]?.getD undef = .int .i64 gi := by rw [← Array.getD_eq_getD_getElem?]; exact e13
      have e15 : a.eval (.tmp 15) = .int .i64 cn := hV 15 (by simp [Op.operands]) (by kernel_rfl)
      have f15 : a.tmps.getD 15 undef = .int .i64 cn := e15
      have g15 : a.tmps[15]?.getD undef = .int .i64 cn := by rw [← Array.getD_eq_getD_getElem?]; exact e15
      have e17 : a.eval (.tmp 17) = .int .i64 t := hV 17 (by simp [Op.operands]) (by kernel_rfl)
      have f17 : a.tmps.getD 17 undef = .int .i64 t := e17
      have g17 : a.tmps[17]?.getD undef = .int .i64 t := by rw [← Array.getD_eq_getD_getElem?]; exact e17
      have e21 : a.eval (.tmp 21) = .int .i64 ((p.size : Int) + 1) := hV 21 (by simp [Op.operands]) (by kernel_rfl)
      have f21 : a.tmps.getD 21 undef = .int .i64 ((p.size : Int) + 1) := e21
      have g21 : a.tmps[21]?.getD undef = .int .i64 ((p.size : Int) + 1) := by rw [← Array.getD_eq_getD_getElem?]; exact e21
      have e24 : a.eval (.tmp 24) = .int .i64 (d.size : Int) := hV 24 (by simp [Op.operands]) (by kernel_rfl)
      have f24 : a.tmps.getD 24 undef = .int .i64 (d.size : Int) := e24
      have g24 : a.tmps[24]?.getD undef = .int .i64 (d.size : Int) := by rw [← Array.getD_eq_getD_getElem?]; exact e24
      refine op_val (.slice (some ⟨w2.heap.size, 0, none⟩) 10 10) (w' := w2.alloc (.cells #[.int .i64 0, .int .i64 ino, .int .i64 mo, .int .i64 u1, .int .i64 gi, .int .i64 cn, .int .i64 0, .int .i64 t, .int .i64 ((p.size : Int) + 1), .int .i64 (d.size : Int)] 3)) ?_ (hC.alloc hC.size _) ((Below.refl _ _).alloc (Nat.le_refl _) _) ?_
      · (clear hV hI hC; go_simp <;> (first | rfl | simp | (rw [IntKind.wrap_i64]; omega)))
      · intro d hd; cases hd; exact ⟨w2.heap.size, rfl, hC.size, heap_lastG _ _⟩
    case o26 =>
      intro Q a w2 hC hV hI
      refine op_call (f := 63) (args := #[]) (R := fun v y => exRow w1.heap.size 10 #[.int .i64 6, .int .i64 6, .int .i64 6, .int .i64 6, .int .i64 6, .int .i64 6, .int .i64 6, .int .i64 11, .int .i64 6, .int .i64 11] 3 v y ∧ Below w2.heap.size w2 y) ?_ ((wide_spec w2).mono ?_) ?_
      · (clear hV hI hC; go_simp <;> (first | rfl | simp | (rw [IntKind.wrap_i64]; omega)))
      · rintro e y ⟨G, rfl, hg1, hg2, hb⟩; exact ⟨_, rfl, ⟨G, rfl, Nat.le_trans hC.size hg1, hg2⟩, hb⟩
      · rintro v y ⟨hv, hb⟩; exact ⟨hC.trans (hb.mono hC.size), hb, by intro d hd; cases hd; exact hv⟩
    case o27 =>
      intro Q a w2 hC hV hI
      obtain ⟨G25, e25, b25, o25⟩ : ∃ G, a.eval (.tmp 25) = .slice (some ⟨G, 0, none⟩) 10 10 ∧ w1.heap.size ≤ G ∧ w2.heap[G]? = some (.cells #[.int .i64 0, .int .i64 ino, .int .i64 mo, .int .i64 u1, .int .i64 gi, .int .i64 cn, .int .i64 0, .int .i64 t, .int .i64 ((p.size : Int) + 1), .int .i64 (d.size : Int)] 3 (0, 0)) := hV 25 (by simp [Op.operands, Call.operands]) (by kernel_rfl)
      have f25 : a.tmps.getD 25 undef = .slice (some ⟨G25, 0, none⟩) 10 10 := e25
      have g25 : a.tmps[25]?.getD undef = .slice (some ⟨G25, 0, none⟩) 10 10 := by rw [← Array.getD_eq_getD_getElem?]; exact e25
      obtain ⟨G26, e26, b26, o26⟩ : ∃ G, a.eval (.tmp 26) = .slice (some ⟨G, 0, none⟩) 10 10 ∧ w1.heap.size ≤ G ∧ w2.heap[G]? = some (.cells #[.int .i64 6, .int .i64 6, .int .i64 6, .int .i64 6, .int .i64 6, .int .i64 6, .int .i64 6, .int .i64 11, .int .i64 6, .int .i64 11] 3 (0, 0)) := hV 26 (by simp [Op.operands, Call.operands]) (by kernel_rfl)
      have f26 : a.tmps.getD 26 undef = .slice (some ⟨G26, 0, none⟩) 10 10 := e26
      have g26 : a.tmps[26]?.getD undef = .slice (some ⟨G26, 0, none⟩) 10 10 := by rw [← Array.getD_eq_getD_getElem?]; exact e26
      refine op_call (f := 62) (args := #[.slice (some ⟨G25, 0, none⟩) 10 10, .slice (some ⟨G26, 0, none⟩) 10 10]) (R := fun v y => v = .tuple #[.string rs, .bool ok] ∧ Below w2.heap.size w2 y) ?_ ((HO.out G25 G26 w2 (Array.getElem?_eq_some_iff.1 o25).1 (Array.getElem?_eq_some_iff.1 o26).1 (RowN.of (l := [0, ino, mo, u1, gi, cn, 0, t, (p.size : Int) + 1, (d.size : Int)]) o25) (RowN.of (l := wideC) o26)).mono ?_) ?_
      · (clear hV hI hC; go_simp <;> (first | rfl | simp | (rw [IntKind.wrap_i64]; omega)))
      · rintro e y ⟨rfl, hb⟩; exact ⟨_, rfl, rfl, hb⟩
      · rintro v y ⟨rfl, hb⟩; exact ⟨hC.trans (hb.mono hC.size), hb, by intro d hd; cases hd; exact rfl⟩
    case o5 =>
      intro Q a w2 hC hV hI
      have e27 : a.eval (.tmp 27) = .tuple #[.string rs, .bool ok] := hV 27 (by simp [Op.operands]) (by kernel_rfl)
      have f27 : a.tmps.getD 27 undef = .tuple #[.string rs, .bool ok] := e27
      have g27 : a.tmps[27]?.getD undef = .tuple #[.string rs, .bool ok] := by rw [← Array.getD_eq_getD_getElem?]; exact e27
      refine op_val (.tuple #[.string rs, .bool ok]) ?_ hC (Below.refl _ _) (by intro d hd; cases hd; exact rfl)
      (clear hV hI hC; go_simp <;> (first | rfl | simp | (rw [IntKind.wrap_i64]; omega)))
    case o28 =>
      intro Q a w2 hC hV hI
      have e5 : a.eval (.tmp 5) = .tuple #[.string rs, .bool ok] := hV 5 (by simp [Op.operands]) (by kernel_rfl)
      have f5 : a.tmps.getD 5 undef = .tuple #[.string rs, .bool ok] := e5
      have g5 : a.tmps[5]?.getD undef = .tuple #[.string rs, .bool ok] := by rw [← Array.getD_eq_getD_getElem?]; exact e5
      refine op_val (.string rs) ?_ hC (Below.refl _ _) (by intro d hd; cases hd; exact rfl)
      (clear hV hI hC; go_simp <;> (first | rfl | simp | (rw [IntKind.wrap_i64]; omega)))
    case o29 =>
      intro Q a w2 hC hV hI
      have e5 : a.eval (.tmp 5) = .tuple #[.string rs, .bool ok] := hV 5 (by simp [Op.operands]) (by kernel_rfl)
      have f5 : a.tmps.getD 5 undef = .tuple #[.string rs, .bool ok] := e5
      have g5 : a.tmps[5]?.getD undef = .tuple #[.string rs, .bool ok] := by rw [← Array.getD_eq_getD_getElem?]; exact e5
      refine op_val (.bool ok) ?_ hC (Below.refl _ _) (by intro d hd; cases hd; exact rfl)
      (clear hV hI hC; go_simp <;> (first | rfl | simp | (rw [IntKind.wrap_i64]; omega)))
    case o3 =>
      intro Q a w2 hC hV hI
      have e28 : a.eval (.tmp 28) = .string rs := hV 28 (by simp [Op.operands]) (by kernel_rfl)
      have f28 : a.tmps.getD 28 undef = .string rs := e28
      have g28 : a.tmps[28]?.getD undef = .string rs := by rw [← Array.getD_eq_getD_getElem?]; exact e28
      refine op_val (.string rs) ?_ hC (Below.refl _ _) (by intro d hd; cases hd; exact rfl)
      (clear hV hI hC; go_simp <;> (first | rfl | simp | (rw [IntKind.wrap_i64]; omega)))
    case o4 =>
      intro Q a w2 hC hV hI
      have e29 : a.eval (.tmp 29) = .bool ok := hV 29 (by simp [Op.operands]) (by kernel_rfl)
      have f29 : a.tmps.getD 29 undef = .bool ok := e29
      have g29 : a.tmps[29]?.getD undef = .bool ok := by rw [← Array.getD_eq_getD_getElem?]; exact e29
      refine op_val (.bool ok) ?_ hC (Below.refl _ _) (by intro d hd; cases hd; exact rfl)
      (clear hV hI hC; go_simp <;> (first | rfl | simp | (rw [IntKind.wrap_i64]; omega)))
  case hend =>
    intro f w2 hC hall
    simp only [List.forall_mem_cons] at hall
    obtain ⟨h6, h7, h8, h9, h10, h11, h12, h13, h14, h15, h16, h17, h18, h19, h20, h21, h22, h23, h24, h25, h26, h27, h5, h28, h29, h3, h4, _⟩ := hall
    replace h6 : f 6 = .pointer (some ⟨w.heap.size, 0, none⟩) := h6 6 rfl
    replace h7 : f 7 = .int .i64 ino := h7 7 rfl
    replace h8 : f 8 = .pointer (some ⟨w.heap.size, 1, none⟩) := h8 8 rfl
    replace h9 : f 9 = .int .i64 mo := h9 9 rfl
    replace h10 : f 10 = .pointer (some ⟨w.heap.size, 2, none⟩) := h10 10 rfl
    replace h11 : f 11 = .int .i64 u1 := h11 11 rfl
    replace h12 : f 12 = .pointer (some ⟨w.heap.size, 3, none⟩) := h12 12 rfl
    replace h13 : f 13 = .int .i64 gi := h13 13 rfl
    replace h14 : f 14 = .pointer (some ⟨w.heap.size, 4, none⟩) := h14 14 rfl
    replace h15 : f 15 = .int .i64 cn := h15 15 rfl
    replace h16 : f 16 = .pointer (some ⟨w.heap.size, 5, none⟩) := h16 16 rfl
    replace h17 : f 17 = .int .i64 t := h17 17 rfl
    replace h18 : f 18 = .pointer (some ⟨w.heap.size, 6, none⟩) := h18 18 rfl
    replace h19 : f 19 = .string p := h19 19 rfl
    replace h20 : f 20 = .int .i64 (p.size : Int) := h20 20 rfl
    replace h21 : f 21 = .int .i64 ((p.size : Int) + 1) := h21 21 rfl
    replace h22 : f 22 = .pointer (some ⟨w.heap.size, 7, none⟩) := h22 22 rfl
    replace h23 : f 23 = .string d := h23 23 rfl
    replace h24 : f 24 = .int .i64 (d.size : Int) := h24 24 rfl
    obtain ⟨G25, hG25, hGB25, hGO25⟩ : ∃ G, f 25 = .slice (some ⟨G, 0, none⟩) 10 10 ∧ w1.heap.size ≤ G ∧ w2.heap[G]? = some (.cells #[.int .i64 0, .int .i64 ino, .int .i64 mo, .int .i64 u1, .int .i64 gi, .int .i64 cn, .int .i64 0, .int .i64 t, .int .i64 ((p.size : Int) + 1), .int .i64 (d.size : Int)] 3 (0, 0)) := h25 25 rfl
    obtain ⟨G26, hG26, hGB26, hGO26⟩ : ∃ G, f 26 = .slice (some ⟨G, 0, none⟩) 10 10 ∧ w1.heap.size ≤ G ∧ w2.heap[G]? = some (.cells #[.int .i64 6, .int .i64 6, .int .i64 6, .int .i64 6, .int .i64 6, .int .i64 6, .int .i64 6, .int .i64 11, .int .i64 6, .int .i64 11] 3 (0, 0)) := h26 26 rfl
    replace h27 : f 27 = .tuple #[.string rs, .bool ok] := h27 27 rfl
    replace h5 : f 5 = .tuple #[.string rs, .bool ok] := h5 5 rfl
    replace h28 : f 28 = .string rs := h28 28 rfl
    replace h29 : f 29 = .bool ok := h29 29 rfl
    replace h3 : f 3 = .string rs := h3 3 rfl
    replace h4 : f 4 = .bool ok := h4 4 rfl
    simp only [putAll, Act.put, List.setIfInBounds_toArray, List.set_cons_succ, List.set_cons_zero, h6, h7, h8, h9, h10, h11, h12, h13, h14, h15, h16, h17, h18, h19, h20, h21, h22, h23, h24, hG25, hG26, h27, h5, h28, h29, h3, h4]
    clear h6 h7 h8 h9 h10 h11 h12 h13 h14 h15 h16 h17 h18 h19 h20 h21 h22 h23 h24 hG25 h25 hG26 h26 h27 h5 h28 h29 h3 h4
    have X2 := XC.out.below hC (by omega)
    have B2 := Lib.hid (B1.out.trans (hC.mono (by omega)))
    clear KC XC B1 hGO25 hGO26 HO hC
    obtain ⟨k0, k1, k2, k3, k4, k5, k6, k7⟩ := X2.at.zero
    cases ok with
    | false =>
      have HF : Hid (r = ⟨#[]⟩) := Lib.hid (by rw [HV.out]; rfl)
      clear HV HT
      go_wp2_with fail
      go_ret
      exact ⟨by rw [HF.out]; rfl, B2.out⟩
    | true =>
      have hrs : rs = os := HT.out rfl
      subst hrs
      have HF : Hid (r = ⟨#[48, 55, 48, 55, 48, 55]⟩ ++ rs ++ p ++ ⟨#[0]⟩ ++ d) := Lib.hid (by rw [HV.out]; rfl)
      clear HV HT
      have z6 : (⟨#[48, 55, 48, 55, 48, 55]⟩ : ByteArray).size = 6 := rfl
      have z1 : (⟨#[0]⟩ : ByteArray).size = 1 := rfl
      obtain ⟨x1, hx1⟩ : ∃ x : ByteArray, x = ⟨#[48, 55, 48, 55, 48, 55]⟩ ++ rs := ⟨_, rfl⟩
      have y1 : x1.size ≤ 206 := by rw [hx1, ByteArray.size_append]; omega
      obtain ⟨x2, hx2⟩ : ∃ x : ByteArray, x = x1 ++ p := ⟨_, rfl⟩
      have y2 : x2.size ≤ 4194510 := by rw [hx2, ByteArray.size_append]; omega
      obtain ⟨x3, hx3⟩ : ∃ x : ByteArray, x = x2 ++ ⟨#[0]⟩ := ⟨_, rfl⟩
      have y3 : x3.size ≤ 4194511 := by rw [hx3, ByteArray.size_append]; omega
      have A1 : ∀ w, (Op.stringOp .add ⟨#[48, 55, 48, 55, 48, 55]⟩ rs).run Tryz.prog w = .ok (.string x1) w := fun w => by rw [hx1]; exact run_string_add_sum w _ _ (by omega)
      have A2 : ∀ w, (Op.stringOp .add x1 p).run Tryz.prog w = .ok (.string x2) w := fun w => by rw [hx2]; exact run_string_add_sum w _ _ (by omega)
      have A3 : ∀ w, (Op.stringOp .add x2 ⟨#[0]⟩).run Tryz.prog w = .ok (.string x3) w := fun w => by rw [hx3]; exact run_string_add_sum w _ _ (by omega)
      have A4 : ∀ w, (Op.stringOp .add x3 d).run Tryz.prog w = .ok (.string (x3 ++ d)) w := fun w => run_string_add_sum w _ _ (by omega)
      have HX : Hid (r = x3 ++ d) := Lib.hid (by rw [HF.out, hx3, hx2, hx1])
      clear hx1 hx2 hx3 z6 z1 HF
      go_wp2_with fail
      go_ret
      exact ⟨by rw [HX.out]; rfl, B2.out⟩
end Go.Proofs.YtcnmbolmgifgfabGreatDoor

/- A card read at a place of a text: plain mathematics, and the text's pieces. -/
namespace Go.Proofs.YtcnmbolmgifgfabGreatDoor
open Go.ChangeShapes Go.WideShapes Go.ChangeAt Go.RowKit Go.Deep

def cum (k : Nat) : Nat := [0, 6, 12, 18, 24, 30, 36, 42, 53, 59, 70].getD k 0
def wid (k : Nat) : Nat := [6, 6, 6, 6, 6, 6, 6, 11, 6, 11].getD k 0
theorem cum_wid : ∀ k, k < 10 → cum (k + 1) = cum k + wid k ∧ cum (k + 1) ≤ 70 ∧ wid k ≤ 11 ∧ wideC[k]? = some ((wid k : Nat) : Int) := by decide
/-- The bytes of the k-th number of a card that begins at j. -/
def fB (s : ByteArray) (j k : Nat) : ByteArray := s.extract (j + 6 + cum k) (j + 6 + cum k + wid k)
def fN (s : ByteArray) (j k : Nat) : Int := (getOctv (fB s j k).data.toList).1
def fO (s : ByteArray) (j k : Nat) : Bool := (getOctv (fB s j k).data.toList).2
theorem vals_bdK (b : Int) (hb : 0 ≤ b) (l : List UInt8) : -1 ≤ vals b 0 l ∧ vals b 0 l ≤ 9007199254740991 := by
  have := lead_bd b hb 0 l (by omega) (by omega)
  rw [vals_lead b hb 0 l (by omega)]
  split <;> omega
theorem vals_top (l : List UInt8) : vals 8 0 l ≤ 9007199254740991 := (vals_bdK 8 (by decide) l).2
theorem octv_bds (l : List UInt8) : 0 ≤ (getOctv l).1 ∧ (getOctv l).1 ≤ 9007199254740991 := by
  unfold getOctv
  split
  · rename_i h
    refine ⟨h.2.2, ?_⟩
    exact vals_top l
  · exact ⟨by decide, by decide⟩
theorem fN_bd (s : ByteArray) (j k : Nat) : 0 ≤ fN s j k ∧ fN s j k ≤ 9007199254740991 := octv_bds _
def allO (s : ByteArray) (j : Nat) : Bool := (List.range 10).all (fO s j)
theorem allO_bad {s : ByteArray} {j k : Nat} (h : k < 10) (hk : fO s j k = false) : allO s j = false := by
  rw [allO, List.all_eq_false]
  exact ⟨k, List.mem_range.2 h, by simp [hk]⟩
theorem allO_good {s : ByteArray} {j : Nat} (h : ∀ k, k < 10 → fO s j k = true) : allO s j = true := List.all_eq_true.2 (fun k hk => h k (List.mem_range.1 hk))
def magicB : ByteArray := ⟨#[48, 55, 48, 55, 48, 55]⟩
def nameB (s : ByteArray) (j : Nat) : ByteArray := s.extract (j + 76) (j + 76 + (fN s j 8).toNat)
/-- The code of a card's reading at i. -/
def cdCode (s : ByteArray) (i : Int) : Int :=
  if i < 0 ∨ (s.size : Int) < i + 76 then 1
  else if ¬ s.extract i.toNat (i.toNat + 6) = magicB then 4
  else if allO s i.toNat = false then 3
  else if ¬ fN s i.toNat 0 = 0 ∨ ¬ fN s i.toNat 6 = 0 then 3
  else if (s.size : Int) < i + 76 + fN s i.toNat 8 + fN s i.toNat 9 then 1
  else if fN s i.toNat 8 = 0 ∨ ¬ ((cutv (nameB s i.toNat)).size : Int) = fN s i.toNat 8 - 1 then 4
  else 0
def cdCard (s : ByteArray) (i : Int) : Card := if cdCode s i = 0 then ⟨fN s i.toNat 1, fN s i.toNat 2, fN s i.toNat 3, fN s i.toNat 4, fN s i.toNat 5, fN s i.toNat 7, cutv (nameB s i.toNat), s.extract (i.toNat + 76 + (fN s i.toNat 8).toNat) (i.toNat + 76 + (fN s i.toNat 8).toNat + (fN s i.toNat 9).toNat)⟩ else zeroC
def cdNext (s : ByteArray) (i : Int) : Int := if cdCode s i = 0 then i + 76 + fN s i.toNat 8 + fN s i.toNat 9 else i
/-- What is said where the code is no 0. -/
def badCd (s : ByteArray) (i c : Int) : Prop := cdCode s i = c ∧ cdCard s i = zeroC ∧ cdNext s i = i
theorem badCd_of {s : ByteArray} {i c : Int} (h : cdCode s i = c) (hc : ¬ c = 0) : badCd s i c := ⟨h, by rw [cdCard, if_neg (by omega)], by rw [cdNext, if_neg (by omega)]⟩
theorem cd_cut {s : ByteArray} {i : Int} (h : i < 0 ∨ (s.size : Int) < i + 76) : badCd s i 1 := badCd_of (by rw [cdCode, if_pos h]) (by decide)
theorem cd_magic {s : ByteArray} {j : Nat} (h : j + 76 ≤ s.size) (hm : ¬ s.extract j (j + 6) = magicB) : badCd s j 4 := badCd_of (by rw [cdCode, if_neg (by omega), Int.toNat_natCast, if_pos hm]) (by decide)
theorem cd_field {s : ByteArray} {j k : Nat} (h : j + 76 ≤ s.size) (hm : s.extract j (j + 6) = magicB) (hk : k < 10) (ho : fO s j k = false) : badCd s j 3 := badCd_of (by rw [cdCode, if_neg (by omega), Int.toNat_natCast, if_neg (by simp [hm]), if_pos (allO_bad hk ho)]) (by decide)
theorem cd_zero {s : ByteArray} {j : Nat} (h : j + 76 ≤ s.size) (hm : s.extract j (j + 6) = magicB) (ho : ∀ k, k < 10 → fO s j k = true) (hz : ¬ fN s j 0 = 0 ∨ ¬ fN s j 6 = 0) : badCd s j 3 := badCd_of (by rw [cdCode, if_neg (by omega), Int.toNat_natCast, if_neg (by simp [hm]), if_neg (by simp [allO_good ho]), if_pos hz]) (by decide)
theorem cd_short {s : ByteArray} {j : Nat} (h : j + 76 ≤ s.size) (hm : s.extract j (j + 6) = magicB) (ho : ∀ k, k < 10 → fO s j k = true) (hz : fN s j 0 = 0 ∧ fN s j 6 = 0) (hs : (s.size : Int) < j + 76 + fN s j 8 + fN s j 9) : badCd s j 1 := badCd_of (by rw [cdCode, if_neg (by omega), Int.toNat_natCast, if_neg (by simp [hm]), if_neg (by simp [allO_good ho]), if_neg (by simp [hz]), if_pos hs]) (by decide)
theorem cd_name {s : ByteArray} {j : Nat} (h : j + 76 ≤ s.size) (hm : s.extract j (j + 6) = magicB) (ho : ∀ k, k < 10 → fO s j k = true) (hz : fN s j 0 = 0 ∧ fN s j 6 = 0) (hs : ¬ (s.size : Int) < j + 76 + fN s j 8 + fN s j 9) (hn : fN s j 8 = 0 ∨ ¬ ((cutv (nameB s j)).size : Int) = fN s j 8 - 1) : badCd s j 4 := badCd_of (by rw [cdCode, if_neg (by omega), Int.toNat_natCast, if_neg (by simp [hm]), if_neg (by simp [allO_good ho]), if_neg (by simp [hz]), if_neg hs, if_pos hn]) (by decide)
theorem cd_good {s : ByteArray} {j : Nat} (h : j + 76 ≤ s.size) (hm : s.extract j (j + 6) = magicB) (ho : ∀ k, k < 10 → fO s j k = true) (hz : fN s j 0 = 0 ∧ fN s j 6 = 0) (hs : ¬ (s.size : Int) < j + 76 + fN s j 8 + fN s j 9) (hn : ¬ (fN s j 8 = 0 ∨ ¬ ((cutv (nameB s j)).size : Int) = fN s j 8 - 1)) : cdCode s j = 0 ∧ cdCard s j = ⟨fN s j 1, fN s j 2, fN s j 3, fN s j 4, fN s j 5, fN s j 7, cutv (nameB s j), s.extract (j + 76 + (fN s j 8).toNat) (j + 76 + (fN s j 8).toNat + (fN s j 9).toNat)⟩ ∧ cdNext s j = j + 76 + fN s j 8 + fN s j 9 := by
  have e : cdCode s j = 0 := by rw [cdCode, if_neg (by omega), Int.toNat_natCast, if_neg (by simp [hm]), if_neg (by simp [allO_good ho]), if_neg (by simp [hz]), if_neg hs, if_neg hn]
  exact ⟨e, by rw [cdCard, if_pos e, Int.toNat_natCast], by rw [cdNext, if_pos e, Int.toNat_natCast]⟩
theorem sl_at (s : ByteArray) (x y : Int) (a b : Nat) (hx : x = (a : Int)) (hy : y = (b : Int)) (hab : a ≤ b) (hb : b ≤ s.size) (w : World) : (Instr.slice 9 (.string s) (some (.int .i64 x)) (some (.int .i64 y)) none).run Tryz.prog w = .ok (.string (s.extract a b)) w := by
  subst hx hy
  have := run_slice_string (P := Tryz.prog) (w := w) 9 s .i64 .i64 (a : Int) (b : Int) Tryz.underlying9 (by omega) (by omega) (by omega)
  rw [Int.toNat_natCast, Int.toNat_natCast] at this
  exact this
theorem cut_pre (s : ByteArray) : s.extract 0 (cutv s).size = cutv s := by
  apply ba_ext
  have e : (cutv s).size = (nulFree s.data.toList).length := by simp [cutv, ByteArray.size]
  rw [e, show (cutv s).data.toList = nulFree s.data.toList from by simp [cutv]]
  simp
  unfold nulFree
  exact (List.prefix_iff_eq_take.1 (List.takeWhile_prefix _)).symm
theorem below_setK {B g : Nat} {w : World} (hB : B ≤ g) (cs : Array Value) : Below B w (w.setRow g cs) :=
  ⟨rfl, rfl, rfl, by simp, fun k hk => setRow_other _ _ _ _ (by omega)⟩
theorem cut_to (s : ByteArray) (x : Int) (hx : x.toNat = (cutv s).size) (h0 : 0 ≤ x) (h1 : x ≤ s.size) (w : World) : (Instr.slice 9 (.string s) none (some (.int .i64 x)) none).run Tryz.prog w = .ok (.string (cutv s)) w := by
  have := run_slice_string_h (P := Tryz.prog) (w := w) (t := 9) (s := s) Tryz.underlying9 .i64 x h0 h1
  rw [hx, cut_pre] at this
  exact this
theorem results_cell3 {P : Program} {fn : Func} {p u1 u2 : Tmp} {ty : TypeId} (h : fn.results = #[.cell p ty, .tmp u1, .tmp u2]) (tmps : Array Value) (w : World) (g : Nat) (t : TypeId) (cs : Array Value) (fr : Nat × Nat) (d : TypeDesc)
    (hp : tmps.getD p undef = .pointer (some ⟨g, 0, none⟩)) (hg : w.heap[g]? = some (.cells cs t fr))
    (hu : P.underlying ty = some d) (hd : (match d with | .struct _ | .array _ _ => true | _ => false) = true) (hi : (P.info? ty).map (·.size) = some cs.size) :
    (results fn tmps).run P w = .ok (.tuple #[.agg cs, tmps.getD u1 undef, tmps.getD u2 undef]) w := by
  have hp' : tmps[p]?.getD undef = .pointer (some ⟨g, 0, none⟩) := by simpa using hp
  simp [results, h, hp', asAddr, run_loadVar_row w g t ty cs fr d hg hu hd hi]
theorem res_OC3 {fn : Func} {p u1 u2 : Tmp} (h : fn.results = #[.cell p 48, .tmp u1, .tmp u2]) (tmps : Array Value) {w : World} {g : Nat} {e : Card}
    (hp : tmps.getD p undef = .pointer (some ⟨g, 0, none⟩)) (hg : CardO w g e) : (results fn tmps).run Tryz.prog w = .ok (.tuple #[.agg e.cells.toArray, tmps.getD u1 undef, tmps.getD u2 undef]) w :=
  results_cell3 h _ _ g _ e.cells.toArray (0, 0) _ hp hg Tryz.underlying48 rfl (by rw [Tryz.sizeOC]; rfl)
end Go.Proofs.YtcnmbolmgifgfabGreatDoor

/- Reading cards with octal headers one after another: plain mathematics. -/
namespace Go.Proofs.YtcnmbolmgifgfabGreatDoor
open Go.ChangeShapes Go.WideShapes Go.ChangeAt Go.RowKit Go.Deep

def odcR (s : ByteArray) : Rdr := fun p => (cdCard s p, cdNext s p, cdCode s p)
def odcO (s : ByteArray) : Int × List Card := outc (odcR s) s.size (s.size + 1) [] 0
theorem odcR_good (s : ByteArray) (hs : s.size ≤ 1048576) : GoodR (odcR s) s.size 76 := by
  intro p hc
  have h0 : cdCode s p = 0 := hc
  clear hc
  have h1 : p + 76 ≤ s.size := by
    by_cases q : (s.size : Int) < (p : Int) + 76
    · have := (cd_cut (s := s) (i := (p : Int)) (.inr q)).1; omega
    · omega
  have hm : s.extract p (p + 6) = magicB := by
    by_cases q : s.extract p (p + 6) = magicB
    · exact q
    · have := (cd_magic h1 q).1; omega
  have ho : ∀ k, k < 10 → fO s p k = true := fun k hk => by
    cases q : fO s p k with
    | true => rfl
    | false => have := (cd_field h1 hm hk q).1; omega
  have hz : fN s p 0 = 0 ∧ fN s p 6 = 0 := by
    by_cases q : fN s p 0 = 0 ∧ fN s p 6 = 0
    · exact q
    · have := (cd_zero h1 hm ho (by omega)).1; omega
  have hn : ¬ (s.size : Int) < p + 76 + fN s p 8 + fN s p 9 := fun q => by have := (cd_short h1 hm ho hz q).1; omega
  have hq : ¬ (fN s p 8 = 0 ∨ ¬ ((cutv (nameB s p)).size : Int) = fN s p 8 - 1) := fun q => by have := (cd_name h1 hm ho hz hn q).1; omega
  obtain ⟨_, g1, g2⟩ := cd_good h1 hm ho hz hn hq
  have hc8 := fN_bd s p 8
  have hc9 := fN_bd s p 9
  have hk := cutv_le (nameB s p)
  have hzz : (nameB s p).size ≤ (fN s p 8).toNat := by unfold nameB; rw [ByteArray.size_extract]; omega
  have hd : (s.extract (p + 76 + (fN s p 8).toNat) (p + 76 + (fN s p 8).toNat + (fN s p 9).toNat)).size ≤ (fN s p 9).toNat := by rw [ByteArray.size_extract]; omega
  have hM : (1048576 : Nat) ≤ maxLen := by simp [maxLen]
  have b : ∀ k, I64C (fN s p k) := fun k => by have := fN_bd s p k; unfold I64C; omega
  clear h0 ho hm hq hz
  simp only [odcR]
  rw [g1, g2]
  clear g1 g2
  generalize s.extract (p + 76 + (fN s p 8).toNat) (p + 76 + (fN s p 8).toNat + (fN s p 9).toNat) = dd at *
  generalize cutv (nameB s p) = ct at *
  generalize nameB s p = nb at *
  have b1 := b 1
  have b2 := b 2
  have b3 := b 3
  have b4 := b 4
  have b5 := b 5
  have b7 := b 7
  clear b
  generalize fN s p 1 = x1 at *
  generalize fN s p 2 = x2 at *
  generalize fN s p 3 = x3 at *
  generalize fN s p 4 = x4 at *
  generalize fN s p 5 = x5 at *
  generalize fN s p 7 = x7 at *
  generalize fN s p 8 = x8 at *
  generalize fN s p 9 = x9 at *
  refine ⟨⟨by omega, by omega⟩, ?_, ?_⟩
  · simp only [szC]
    omega
  · simp only [Card.wf]
    exact ⟨b1, b2, b3, b4, b5, b7, by omega, by omega⟩
end Go.Proofs.YtcnmbolmgifgfabGreatDoor

/- Contracts of impl.demand and impl.cardCode: what is wrong with a card ends the work by a panic that carries a code. -/
namespace Go.Proofs.YtcnmbolmgifgfabGreatDoor
open Go.ChangeShapes Go.WideShapes Go.ChangeAt Go.RowKit

/-- The panic with a code. -/
def panC (c : Int) : List PanicEntry := [{ v := .iface 131 (.agg #[.int .i64 c]), recovered := false }]
theorem demand_ok (c : Int) (w : World) : Calls Tryz.prog 74 #[.bool true, .int .i64 c] w fun e w' => e = .returned (.tuple #[]) ∧ w' = w := by
  go_enter Tryz.func74, Tryz.ntmps74
  go_wp2_with fail
  go_end0
  exact ⟨rfl, rfl⟩
theorem demand_no (c : Int) (w : World) : Calls Tryz.prog 74 #[.bool false, .int .i64 c] w fun e w' => e = .panicked (panC c) ∧ w' = w := by
  go_enter Tryz.func74, Tryz.ntmps74
  go_wp2_with fail
  exact ⟨rfl, rfl, rfl⟩
set_option maxRecDepth 8000 in
theorem cardCode_nil (w : World) : Calls Tryz.prog 71 #[.nilIface] w fun e w' => e = .returned (.int .i64 0) ∧ Below w.heap.size w w' := by
  go_enter Tryz.func71, Tryz.ntmps71
  go_wp2_with fail
  go_ret
  exact ⟨rfl, Below.refl _ _⟩
theorem assert_hit (T : TypeId) (v : Value) (w : World) : (Instr.typeAssert (.iface 131 v) T 131 true).run Tryz.prog w = .ok (.tuple #[v, .bool true]) w := by
  simp [Instr.typeAssert, go_sem]
set_option maxRecDepth 8000 in
theorem cardCode_some (c : Int) (w : World) : Calls Tryz.prog 71 #[.iface 131 (.agg #[.int .i64 c])] w fun e w' => e = .returned (.int .i64 c) ∧ Below w.heap.size w w' := by
  have ha := assert_hit
  go_enter Tryz.func71, Tryz.ntmps71
  go_wp2_with fail
  go_ret
  exact ⟨rfl, (Below.refl _ _).alloc (Nat.le_refl _) _⟩
end Go.Proofs.YtcnmbolmgifgfabGreatDoor

/- Contracts of impl.(*odcHead).fields and impl.(*odcHead).digits. -/
namespace Go.Proofs.YtcnmbolmgifgfabGreatDoor
open Go.ChangeShapes Go.WideShapes Go.ChangeAt Go.RowKit Go.Deep

def offv (i : Nat) : Nat := [8, 0, 1, 2, 3, 4, 9, 5, 10, 11].getD i 0
def fieldCells (gh : Nat) : Array Value := #[.pointer (some ⟨gh, 8, none⟩), .int .i64 6, .pointer (some ⟨gh, 0, none⟩), .int .i64 6, .pointer (some ⟨gh, 1, none⟩), .int .i64 6, .pointer (some ⟨gh, 2, none⟩), .int .i64 6, .pointer (some ⟨gh, 3, none⟩), .int .i64 6, .pointer (some ⟨gh, 4, none⟩), .int .i64 6, .pointer (some ⟨gh, 9, none⟩), .int .i64 6, .pointer (some ⟨gh, 5, none⟩), .int .i64 11, .pointer (some ⟨gh, 10, none⟩), .int .i64 6, .pointer (some ⟨gh, 11, none⟩), .int .i64 11]
set_option maxHeartbeats 6400000 in
set_option maxRecDepth 8000 in
theorem fields_any (gh : Nat) (w : World) : Calls Tryz.prog 149 #[.pointer (some ⟨gh, 0, none⟩)] w fun e w' => ∃ G, e = .returned (.slice (some ⟨G, 0, none⟩) 10 10) ∧ w.heap.size ≤ G ∧ w'.heap[G]? = some (.cells (fieldCells gh) 175 (0, 0)) ∧ Below w.heap.size w w' := by
  go_enter Tryz.func149, Tryz.ntmps149
  go_upto_region 1 with fail
  refine wp_region_cut 49 (by kernel_rfl) (fun w' => Below w.heap.size w w') (fun x y => Below x.heap.size x y) (vE 51 (exRow w.heap.size 10 #[.pointer (some ⟨gh, 8, none⟩), .int .i64 6, .pointer (some ⟨gh, 0, none⟩), .int .i64 6, .pointer (some ⟨gh, 1, none⟩), .int .i64 6, .pointer (some ⟨gh, 2, none⟩), .int .i64 6, .pointer (some ⟨gh, 3, none⟩), .int .i64 6, .pointer (some ⟨gh, 4, none⟩), .int .i64 6, .pointer (some ⟨gh, 9, none⟩), .int .i64 6, .pointer (some ⟨gh, 5, none⟩), .int .i64 11, .pointer (some ⟨gh, 10, none⟩), .int .i64 6, .pointer (some ⟨gh, 11, none⟩), .int .i64 11] 175) (fun dq vq _ => match dq with | 3 => vq = .pointer (some ⟨gh, 0, none⟩) | 4 => vq = .pointer (some ⟨gh, 0, none⟩) | 5 => vq = .pointer (some ⟨gh, 8, none⟩) | 6 => vq = .pointer (some ⟨gh, 8, none⟩) | 7 => vq = .agg #[.pointer (some ⟨gh, 8, none⟩), .int .i64 6] | 8 => vq = .pointer (some ⟨gh, 0, none⟩) | 9 => vq = .pointer (some ⟨gh, 0, none⟩) | 10 => vq = .pointer (some ⟨gh, 0, none⟩) | 11 => vq = .pointer (some ⟨gh, 0, none⟩) | 12 => vq = .agg #[.pointer (some ⟨gh, 0, none⟩), .int .i64 6] | 13 => vq = .pointer (some ⟨gh, 0, none⟩) | 14 => vq = .pointer (some ⟨gh, 0, none⟩) | 15 => vq = .pointer (some ⟨gh, 0, none⟩) | 16 => vq = .pointer (some ⟨gh, 1, none⟩) | 17 => vq = .agg #[.pointer (some ⟨gh, 1, none⟩), .int .i64 6] | 18 => vq = .pointer (some ⟨gh, 0, none⟩) | 19 => vq = .pointer (some ⟨gh, 0, none⟩) | 20 => vq = .pointer (some ⟨gh, 0, none⟩) | 21 => vq = .pointer (some ⟨gh, 2, none⟩) | 22 => vq = .agg #[.pointer (some ⟨gh, 2, none⟩), .int .i64 6] | 23 => vq = .pointer (some ⟨gh, 0, none⟩) | 24 => vq = .pointer (some ⟨gh, 0, none⟩) | 25 => vq = .pointer (some ⟨gh, 0, none⟩) | 26 => vq = .pointer (some ⟨gh, 3, none⟩) | 27 => vq = .agg #[.pointer (some ⟨gh, 3, none⟩), .int .i64 6] | 28 => vq = .pointer (some ⟨gh, 0, none⟩) | 29 => vq = .pointer (some ⟨gh, 0, none⟩) | 30 => vq = .pointer (some ⟨gh, 0, none⟩) | 31 => vq = .pointer (some ⟨gh, 4, none⟩) | 32 => vq = .agg #[.pointer (some ⟨gh, 4, none⟩), .int .i64 6] | 33 => vq = .pointer (some ⟨gh, 0, none⟩) | 34 => vq = .pointer (some ⟨gh, 0, none⟩) | 35 => vq = .pointer (some ⟨gh, 8, none⟩) | 36 => vq = .pointer (some ⟨gh, 9, none⟩) | 37 => vq = .agg #[.pointer (some ⟨gh, 9, none⟩), .int .i64 6] | 38 => vq = .pointer (some ⟨gh, 0, none⟩) | 39 => vq = .pointer (some ⟨gh, 0, none⟩) | 40 => vq = .pointer (some ⟨gh, 0, none⟩) | 41 => vq = .pointer (some ⟨gh, 5, none⟩) | 42 => vq = .agg #[.pointer (some ⟨gh, 5, none⟩), .int .i64 11] | 43 => vq = .pointer (some ⟨gh, 0, none⟩) | 44 => vq = .pointer (some ⟨gh, 0, none⟩) | 45 => vq = .pointer (some ⟨gh, 10, none⟩) | 46 => vq = .agg #[.pointer (some ⟨gh, 10, none⟩), .int .i64 6] | 47 => vq = .pointer (some ⟨gh, 0, none⟩) | 48 => vq = .pointer (some ⟨gh, 0, none⟩) | 49 => vq = .pointer (some ⟨gh, 11, none⟩) | 50 => vq = .agg #[.pointer (some ⟨gh, 11, none⟩), .int .i64 11] | _ => True)) (by kernel_rfl) (by kernel_rfl) ((Below.refl _ _).drew) (vE_keep _ _ _ (exRow_keep _ _ _ _) (fun _ _ _ _ _ _ h => h)) (by simp) ?hops ?hend
  case hops =>
    simp only [List.take_succ_cons, List.take_zero, List.forall_mem_cons]
    refine ⟨?o3, ?o4, ?o5, ?o6, ?o7, ?o8, ?o9, ?o10, ?o11, ?o12, ?o13, ?o14, ?o15, ?o16, ?o17, ?o18, ?o19, ?o20, ?o21, ?o22, ?o23, ?o24, ?o25, ?o26, ?o27, ?o28, ?o29, ?o30, ?o31, ?o32, ?o33, ?o34, ?o35, ?o36, ?o37, ?o38, ?o39, ?o40, ?o41, ?o42, ?o43, ?o44, ?o45, ?o46, ?o47, ?o48, ?o49, ?o50, ?o51, fun _ h => by cases h⟩
    case o3 =>
      intro Q a w2 hC hV hI
      have e0 : a.eval (.tmp 0) = .pointer (some ⟨gh, 0, none⟩) := (hI 0 (by simp [Op.operands]) (by kernel_rfl)).trans rfl
      have f0 : a.tmps.getD 0 undef = .pointer (some ⟨gh, 0, none⟩) := e0
      have g0 : a.tmps[0]?.getD undef = .pointer (some ⟨gh, 0, none⟩) := by rw [← Array.getD_eq_getD_getElem?]; exact e0
      refine op_val (.pointer (some ⟨gh, 0, none⟩)) ?_ hC (Below.refl _ _) (by intro d hd; cases hd; exact rfl)
      (clear hV hI hC; go_simp <;> (first | rfl | simp | (rw [IntKind.wrap_i64]; omega)))
    case o4 =>
      intro Q a w2 hC hV hI
      have e3 : a.eval (.tmp 3) = .pointer (some ⟨gh, 0, none⟩) := hV 3 (by simp [Op.operands]) (by kernel_rfl)
      have f3 : a.tmps.getD 3 undef = .pointer (some ⟨gh, 0, none⟩) := e3
      have g3 : a.tmps[3]?.getD undef = .pointer (some ⟨gh, 0, none⟩) := by rw [← Array.getD_eq_getD_getElem?]; exact e3
      refine op_val (.pointer (some ⟨gh, 0, none⟩)) ?_ hC (Below.refl _ _) (by intro d hd; cases hd; exact rfl)
      (clear hV hI hC; go_simp <;> (first | rfl | simp | (rw [IntKind.wrap_i64]; omega)))
    case o5 =>
      intro Q a w2 hC hV hI
      have e4 : a.eval (.tmp 4) = .pointer (some ⟨gh, 0, none⟩) := hV 4 (by simp [Op.operands]) (by kernel_rfl)
      have f4 : a.tmps.getD 4 undef = .pointer (some ⟨gh, 0, none⟩) := e4
      have g4 : a.tmps[4]?.getD undef = .pointer (some ⟨gh, 0, none⟩) := by rw [← Array.getD_eq_getD_getElem?]; exact e4
      refine op_val (.pointer (some ⟨gh, 8, none⟩)) ?_ hC (Below.refl _ _) (by intro d hd; cases hd; exact rfl)
      (clear hV hI hC; go_simp <;> (first | rfl | simp | (rw [IntKind.wrap_i64]; omega)))
    case o6 =>
      intro Q a w2 hC hV hI
      have e5 : a.eval (.tmp 5) = .pointer (some ⟨gh, 8, none⟩) := hV 5 (by simp [Op.operands]) (by kernel_rfl)
      have f5 : a.tmps.getD 5 undef = .pointer (some ⟨gh, 8, none⟩) := e5
      have g5 : a.tmps[5]?.getD undef = .pointer (some ⟨gh, 8, none⟩) := by rw [← Array.getD_eq_getD_getElem?]; exact e5
      refine op_val (.pointer (some ⟨gh, 8, none⟩)) ?_ hC (Below.refl _ _) (by intro d hd; cases hd; exact rfl)
      (clear hV hI hC; go_simp <;> (first | rfl | simp | (rw [IntKind.wrap_i64]; omega)))
    case o7 =>
      intro Q a w2 hC hV hI
      have e6 : a.eval (.tmp 6) = .pointer (some ⟨gh, 8, none⟩) := hV 6 (by simp [Op.operands]) (by kernel_rfl)
      have f6 : a.tmps.getD 6 undef = .pointer (some ⟨gh, 8, none⟩) := e6
      have g6 : a.tmps[6]?.getD undef = .pointer (some ⟨gh, 8, none⟩) := by rw [← Array.getD_eq_getD_getElem?]; exact e6
      refine op_val (.agg #[.pointer (some ⟨gh, 8, none⟩), .int .i64 6]) ?_ hC (Below.refl _ _) (by intro d hd; cases hd; exact rfl)
      (clear hV hI hC; go_simp <;> (first | rfl | simp | (rw [IntKind.wrap_i64]; omega)))
    case o8 =>
      intro Q a w2 hC hV hI
      have e0 : a.eval (.tmp 0) = .pointer (some ⟨gh, 0, none⟩) := (hI 0 (by simp [Op.operands]) (by kernel_rfl)).trans rfl
      have f0 : a.tmps.getD 0 undef = .pointer (some ⟨gh, 0, none⟩) := e0
      have g0 : a.tmps[0]?.getD undef = .pointer (some ⟨gh, 0, none⟩) := by rw [← Array.getD_eq_getD_getElem?]; exact e0
      refine op_val (.pointer (some ⟨gh, 0, none⟩)) ?_ hC (Below.refl _ _) (by intro d hd; cases hd; exact rfl)
      (clear hV hI hC; go_simp <;> (first | rfl | simp | (rw [IntKind.wrap_i64]; omega)))
    case o9 =>
      intro Q a w2 hC hV hI
      have e8 : a.eval (.tmp 8) = .pointer (some ⟨gh, 0, none⟩) := hV 8 (by simp [Op.operands]) (by kernel_rfl)
      have f8 : a.tmps.getD 8 undef = .pointer (some ⟨gh, 0, none⟩) := e8
      have g8 : a.tmps[8]?.getD undef = .pointer (some ⟨gh, 0, none⟩) := by rw [← Array.getD_eq_getD_getElem?]; exact e8
      refine op_val (.pointer (some ⟨gh, 0, none⟩)) ?_ hC (Below.refl _ _) (by intro d hd; cases hd; exact rfl)
      (clear hV hI hC; go_simp <;> (first | rfl | simp | (rw [IntKind.wrap_i64]; omega)))
    case o10 =>
      intro Q a w2 hC hV hI
      have e9 : a.eval (.tmp 9) = .pointer (some ⟨gh, 0, none⟩) := hV 9 (by simp [Op.operands]) (by kernel_rfl)
      have f9 : a.tmps.getD 9 undef = .pointer (some ⟨gh, 0, none⟩) := e9
      have g9 : a.tmps[9]?.getD undef = .pointer (some ⟨gh, 0, none⟩) := by rw [← Array.getD_eq_getD_getElem?]; exact e9
      refine op_val (.pointer (some ⟨gh, 0, none⟩)) ?_ hC (Below.refl _ _) (by intro d hd; cases hd; exact rfl)
      (clear hV hI hC; go_simp <;> (first | rfl | simp | (rw [IntKind.wrap_i64]; omega)))
    case o11 =>
      intro Q a w2 hC hV hI
      have e10 : a.eval (.tmp 10) = .pointer (some ⟨gh, 0, none⟩) := hV 10 (by simp [Op.operands]) (by kernel_rfl)
      have f10 : a.tmps.getD 10 undef = .pointer (some ⟨gh, 0, none⟩) := e10
      have g10 : a.tmps[10]?.getD undef = .pointer (some ⟨gh, 0, none⟩) := by rw [← Array.getD_eq_getD_getElem?]; exact e10
      refine op_val (.pointer (some ⟨gh, 0, none⟩)) ?_ hC (Below.refl _ _) (by intro d hd; cases hd; exact rfl)
      (clear hV hI hC; go_simp <;> (first | rfl | simp | (rw [IntKind.wrap_i64]; omega)))
    case o12 =>
      intro Q a w2 hC hV hI
      have e11 : a.eval (.tmp 11) = .pointer (some ⟨gh, 0, none⟩) := hV 11 (by simp [Op.operands]) (by kernel_rfl)
      have f11 : a.tmps.getD 11 undef = .pointer (some ⟨gh, 0, none⟩) := e11
      have g11 : a.tmps[11]?.getD undef = .pointer (some ⟨gh, 0, none⟩) := by rw [← Array.getD_eq_getD_getElem?]; exact e11
      refine op_val (.agg #[.pointer (some ⟨gh, 0, none⟩), .int .i64 6]) ?_ hC (Below.refl _ _) (by intro d hd; cases hd; exact rfl)
      (clear hV hI hC; go_simp <;> (first | rfl | simp | (rw [IntKind.wrap_i64]; omega)))
    case o13 =>
      intro Q a w2 hC hV hI
      have e0 : a.eval (.tmp 0) = .pointer (some ⟨gh, 0, none⟩) := (hI 0 (by simp [Op.operands]) (by kernel_rfl)).trans rfl
      have f0 : a.tmps.getD 0 undef = .pointer (some ⟨gh, 0, none⟩) := e0
      have g0 : a.tmps[0]?.getD undef = .pointer (some ⟨gh, 0, none⟩) := by rw [← Array.getD_eq_getD_getElem?]; exact e0
      refine op_val (.pointer (some ⟨gh, 0, none⟩)) ?_ hC (Below.refl _ _) (by intro d hd; cases hd; exact rfl)
      (clear hV hI hC; go_simp <;> (first | rfl | simp | (rw [IntKind.wrap_i64]; omega)))
    case o14 =>
      intro Q a w2 hC hV hI
      have e13 : a.eval (.tmp 13) = .pointer (some ⟨gh, 0, none⟩) := hV 13 (by simp [Op.operands]) (by kernel_rfl)
      have f13 : a.tmps.getD 13 undef = .pointer (some ⟨gh, 0, none⟩) := e13
      have g13 : a.tmps[13]?.getD undef = .pointer (some ⟨gh, 0, none⟩) := by rw [← Array.getD_eq_getD_getElem?]; exact e13
      refine op_val (.pointer (some ⟨gh, 0, none⟩)) ?_ hC (Below.refl _ _) (by intro d hd; cases hd; exact rfl)
      (clear hV hI hC; go_simp <;> (first | rfl | simp | (rw [IntKind.wrap_i64]; omega)))
    case o15 =>
      intro Q a w2 hC hV hI
      have e14 : a.eval (.tmp 14) = .pointer (some ⟨gh, 0, none⟩) := hV 14 (by simp [Op.operands]) (by kernel_rfl)
      have f14 : a.tmps.getD 14 undef = .pointer (some ⟨gh, 0, none⟩) := e14
      have g14 : a.tmps[14]?.getD undef = .pointer (some ⟨gh, 0, none⟩) := by rw [← Array.getD_eq_getD_getElem?]; exact e14
      refine op_val (.pointer (some ⟨gh, 0, none⟩)) ?_ hC (Below.refl _ _) (by intro d hd; cases hd; exact rfl)
      (clear hV hI hC; go_simp <;> (first | rfl | simp | (rw [IntKind.wrap_i64]; omega)))
    case o16 =>
      intro Q a w2 hC hV hI
      have e15 : a.eval (.tmp 15) = .pointer (some ⟨gh, 0, none⟩) := hV 15 (by simp [Op.operands]) (by kernel_rfl)
      have f15 : a.tmps.getD 15 undef = .pointer (some ⟨gh, 0, none⟩) := e15
      have g15 : a.tmps[15]?.getD undef = .pointer (some ⟨gh, 0, none⟩) := by rw [← Array.getD_eq_getD_getElem?]; exact e15
      refine op_val (.pointer (some ⟨gh, 1, none⟩)) ?_ hC (Below.refl _ _) (by intro d hd; cases hd; exact rfl)
      (clear hV hI hC; go_simp <;> (first | rfl | simp | (rw [IntKind.wrap_i64]; omega)))
    case o17 =>
      intro Q a w2 hC hV hI
      have e16 : a.eval (.tmp 16) = .pointer (some ⟨gh, 1, none⟩) := hV 16 (by simp [Op.operands]) (by kernel_rfl)
      have f16 : a.tmps.getD 16 undef = .pointer (some ⟨gh, 1, none⟩) := e16
      have g16 : a.tmps[16]?.getD undef = .pointer (some ⟨gh, 1, none⟩) := by rw [← Array.getD_eq_getD_getElem?]; exact e16
      refine op_val (.agg #[.pointer (some ⟨gh, 1, none⟩), .int .i64 6]) ?_ hC (Below.refl _ _) (by intro d hd; cases hd; exact rfl)
      (clear hV hI hC; go_simp <;> (first | rfl | simp | (rw [IntKind.wrap_i64]; omega)))
    case o18 =>
      intro Q a w2 hC hV hI
      have e0 : a.eval (.tmp 0) = .pointer (some ⟨gh, 0, none⟩) := (hI 0 (by simp [Op.operands]) (by kernel_rfl)).trans rfl
      have f0 : a.tmps.getD 0 undef = .pointer (some ⟨gh, 0, none⟩) := e0
      have g0 : a.tmps[0]?.getD undef = .pointer (some ⟨gh, 0, none⟩) := by rw [← Array.getD_eq_getD_getElem?]; exact e0
      refine op_val (.pointer (some ⟨gh, 0, none⟩)) ?_ hC (Below.refl _ _) (by intro d hd; cases hd; exact rfl)
      (clear hV hI hC; go_simp <;> (first | rfl | simp | (rw [IntKind.wrap_i64]; omega)))
    case o19 =>
      intro Q a w2 hC hV hI
      have e18 : a.eval (.tmp 18) = .pointer (some ⟨gh, 0, none⟩) := hV 18 (by simp [Op.operands]) (by kernel_rfl)
      have f18 : a.tmps.getD 18 undef = .pointer (some ⟨gh, 0, none⟩) := e18
      have g18 : a.tmps[18]?.getD undef = .pointer (some ⟨gh, 0, none⟩) := by rw [← Array.getD_eq_getD_getElem?]; exact e18
      refine op_val (.pointer (some ⟨gh, 0, none⟩)) ?_ hC (Below.refl _ _) (by intro d hd; cases hd; exact rfl)
      (clear hV hI hC; go_simp <;> (first | rfl | simp | (rw [IntKind.wrap_i64]; omega)))
    case o20 =>
      intro Q a w2 hC hV hI
      have e19 : a.eval (.tmp 19) = .pointer (some ⟨gh, 0, none⟩) := hV 19 (by simp [Op.operands]) (by kernel_rfl)
      have f19 : a.tmps.getD 19 undef = .pointer (some ⟨gh, 0, none⟩) := e19
      have g19 : a.tmps[19]?.getD undef = .pointer (some ⟨gh, 0, none⟩) := by rw [← Array.getD_eq_getD_getElem?]; exact e19
      refine op_val (.pointer (some ⟨gh, 0, none⟩)) ?_ hC (Below.refl _ _) (by intro d hd; cases hd; exact rfl)
      (clear hV hI hC; go_simp <;> (first | rfl | simp | (rw [IntKind.wrap_i64]; omega)))
    case o21 =>
      intro Q a w2 hC hV hI
      have e20 : a.eval (.tmp 20) = .pointer (some ⟨gh, 0, none⟩) := hV 20 (by simp [Op.operands]) (by kernel_rfl)
      have f20 : a.tmps.getD 20 undef = .pointer (some ⟨gh, 0, none⟩) := e20
      have g20 : a.tmps[20]?.getD undef = .pointer (some ⟨gh, 0, none⟩) := by rw [← Array.getD_eq_getD_getElem?]; exact e20
      refine op_val (.pointer (some ⟨gh, 2, none⟩)) ?_ hC (Below.refl _ _) (by intro d hd; cases hd; exact rfl)
      (clear hV hI hC; go_simp <;> (first | rfl | simp | (rw [IntKind.wrap_i64]; omega)))
    case o22 =>
      intro Q a w2 hC hV hI
      have e21 : a.eval (.tmp 21) = .pointer (some ⟨gh, 2, none⟩) := hV 21 (by simp [Op.operands]) (by kernel_rfl)
      have f21 : a.tmps.getD 21 undef = .pointer (some ⟨gh, 2, none⟩) := e21
      have g21 : a.tmps[21]?.getD undef = .pointer (some ⟨gh, 2, none⟩) := by rw [← Array.getD_eq_getD_getElem?]; exact e21
      refine op_val (.agg #[.pointer (some ⟨gh, 2, none⟩), .int .i64 6]) ?_ hC (Below.refl _ _) (by intro d hd; cases hd; exact rfl)
      (clear hV hI hC; go_simp <;> (first | rfl | simp | (rw [IntKind.wrap_i64]; omega)))
    case o23 =>
      intro Q a w2 hC hV hI
      have e0 : a.eval (.tmp 0) = .pointer (some ⟨gh, 0, none⟩) := (hI 0 (by simp [Op.operands]) (by kernel_rfl)).trans rfl
      have f0 : a.tmps.getD 0 undef = .pointer (some ⟨gh, 0, none⟩) := e0
      have g0 : a.tmps[0]?.getD undef = .pointer (some ⟨gh, 0, none⟩) := by rw [← Array.getD_eq_getD_getElem?]; exact e0
      refine op_val (.pointer (some ⟨gh, 0, none⟩)) ?_ hC (Below.refl _ _) (by intro d hd; cases hd; exact rfl)
      (clear hV hI hC; go_simp <;> (first | rfl | simp | (rw [IntKind.wrap_i64]; omega)))
    case o24 =>
      intro Q a w2 hC hV hI
      have e23 : a.eval (.tmp 23) = .pointer (some ⟨gh, 0, none⟩) := hV 23 (by simp [Op.operands]) (by kernel_rfl)
      have f23 : a.tmps.getD 23 undef = .pointer (some ⟨gh, 0, none⟩) := e23
      have g23 : a.tmps[23]?.getD undef = .pointer (some ⟨gh, 0, none⟩) := by rw [← Array.getD_eq_getD_getElem?]; exact e23
      refine op_val (.pointer (some ⟨gh, 0, none⟩)) ?_ hC (Below.refl _ _) (by intro d hd; cases hd; exact rfl)
      (clear hV hI hC; go_simp <;> (first | rfl | simp | (rw [IntKind.wrap_i64]; omega)))
    case o25 =>
      intro Q a w2 hC hV hI
      have e24 : a.eval (.tmp 24) = .pointer (some ⟨gh, 0, none⟩) := hV 24 (by simp [Op.operands]) (by kernel_rfl)
      have f24 : a.tmps.getD 24 undef = .pointer (some ⟨gh, 0, none⟩) := e24
      have g24 : a.tmps[24]?.getD undef = .pointer (some ⟨gh, 0, none⟩) := by rw [← Array.getD_eq_getD_getElem?]; exact e24
      refine op_val (.pointer (some ⟨gh, 0, none⟩)) ?_ hC (Below.refl _ _) (by intro d hd; cases hd; exact rfl)
      (clear hV hI hC; go_simp <;> (first | rfl | simp | (rw [IntKind.wrap_i64]; omega)))
    case o26 =>
      intro Q a w2 hC hV hI
      have e25 : a.eval (.tmp 25) = .pointer (some ⟨gh, 0, none⟩) := hV 25 (by simp [Op.operands]) (by kernel_rfl)
      have f25 : a.tmps.getD 25 undef = .pointer (some ⟨gh, 0, none⟩) := e25
      have g25 : a.tmps[25]?.getD undef = .pointer (some ⟨gh, 0, none⟩) := by rw [← Array.getD_eq_getD_getElem?]; exact e25
      refine op_val (.pointer (some ⟨gh, 3, none⟩)) ?_ hC (Below.refl _ _) (by intro d hd; cases hd; exact rfl)
      (clear hV hI hC; go_simp <;> (first | rfl | simp | (rw [IntKind.wrap_i64]; omega)))
    case o27 =>
      intro Q a w2 hC hV hI
      have e26 : a.eval (.tmp 26) = .pointer (some ⟨gh, 3, none⟩) := hV 26 (by simp [Op.operands]) (by kernel_rfl)
      have f26 : a.tmps.getD 26 undef = .pointer (some ⟨gh, 3, none⟩) := e26
      have g26 : a.tmps[26]?.getD undef = .pointer (some ⟨gh, 3, none⟩) := by rw [← Array.getD_eq_getD_getElem?]; exact e26
      refine op_val (.agg #[.pointer (some ⟨gh, 3, none⟩), .int .i64 6]) ?_ hC (Below.refl _ _) (by intro d hd; cases hd; exact rfl)
      (clear hV hI hC; go_simp <;> (first | rfl | simp | (rw [IntKind.wrap_i64]; omega)))
    case o28 =>
      intro Q a w2 hC hV hI
      have e0 : a.eval (.tmp 0) = .pointer (some ⟨gh, 0, none⟩) := (hI 0 (by simp [Op.operands]) (by kernel_rfl)).trans rfl
      have f0 : a.tmps.getD 0 undef = .pointer (some ⟨gh, 0, none⟩) := e0
      have g0 : a.tmps[0]?.getD undef = .pointer (some ⟨gh, 0, none⟩) := by rw [← Array.getD_eq_getD_getElem?]; exact e0
      refine op_val (.pointer (some ⟨gh, 0, none⟩)) ?_ hC (Below.refl _ _) (by intro d hd; cases hd; exact rfl)
      (clear hV hI hC; go_simp <;> (first | rfl | simp | (rw [IntKind.wrap_i64]; omega)))
    case o29 =>
      intro Q a w2 hC hV hI
      have e28 : a.eval (.tmp 28) = .pointer (some ⟨gh, 0, none⟩) := hV 28 (by simp [Op.operands]) (by kernel_rfl)
      have f28 : a.tmps.getD 28 undef = .pointer (some ⟨gh, 0, none⟩) := e28
      have g28 : a.tmps[28]?.getD undef = .pointer (some ⟨gh, 0, none⟩) := by rw [← Array.getD_eq_getD_getElem?]; exact e28
      refine op_val (.pointer (some ⟨gh, 0, none⟩)) ?_ hC (Below.refl _ _) (by intro d hd; cases hd; exact rfl)
      (clear hV hI hC; go_simp <;> (first | rfl | simp | (rw [IntKind.wrap_i64]; omega)))
    case o30 =>
      intro Q a w2 hC hV hI
      have e29 : a.eval (.tmp 29) = .pointer (some ⟨gh, 0, none⟩) := hV 29 (by simp [Op.operands]) (by kernel_rfl)
      have f29 : a.tmps.getD 29 undef = .pointer (some ⟨gh, 0, none⟩) := e29
      have g29 : a.tmps[29]?.getD undef = .pointer (some ⟨gh, 0, none⟩) := by rw [← Array.getD_eq_getD_getElem?]; exact e29
      refine op_val (.pointer (some ⟨gh, 0, none⟩)) ?_ hC (Below.refl _ _) (by intro d hd; cases hd; exact rfl)
      (clear hV hI hC; go_simp <;> (first | rfl | simp | (rw [IntKind.wrap_i64]; omega)))
    case o31 =>
      intro Q a w2 hC hV hI
      have e30 : a.eval (.tmp 30) = .pointer (some ⟨gh, 0, none⟩) := hV 30 (by simp [Op.operands]) (by kernel_rfl)
      have f30 : a.tmps.getD 30 undef = .pointer (some ⟨gh, 0, none⟩) := e30
      have g30 : a.tmps[30]?.getD undef = .pointer (some ⟨gh, 0, none⟩) := by rw [← Array.getD_eq_getD_getElem?]; exact e30
      refine op_val (.pointer (some ⟨gh, 4, none⟩)) ?_ hC (Below.refl _ _) (by intro d hd; cases hd; exact rfl)
      (clear hV hI hC; go_simp <;> (first | rfl | simp | (rw [IntKind.wrap_i64]; omega)))
    case o32 =>
      intro Q a w2 hC hV hI
      have e31 : a.eval (.tmp 31) = .pointer (some ⟨gh, 4, none⟩) := hV 31 (by simp [Op.operands]) (by kernel_rfl)
      have f31 : a.tmps.getD 31 undef = .pointer (some ⟨gh, 4, none⟩) := e31
      have g31 : a.tmps[31]?.getD undef = .pointer (some ⟨gh, 4, none⟩) := by rw [← Array.getD_eq_getD_getElem?]; exact e31
      refine op_val (.agg #[.pointer (some ⟨gh, 4, none⟩), .int .i64 6]) ?_ hC (Below.refl _ _) (by intro d hd; cases hd; exact rfl)
      (clear hV hI hC; go_simp <;> (first | rfl | simp | (rw [IntKind.wrap_i64]; omega)))
    case o33 =>
      intro Q a w2 hC hV hI
      have e0 : a.eval (.tmp 0) = .pointer (some ⟨gh, 0, none⟩) := (hI 0 (by simp [Op.operands]) (by kernel_rfl)).trans rfl
      have f0 : a.tmps.getD 0 undef = .pointer (some ⟨gh, 0, none⟩) := e0
      have g0 : a.tmps[0]?.getD undef = .pointer (some ⟨gh, 0, none⟩) := by rw [← Array.getD_eq_getD_getElem?]; exact e0
      refine op_val (.pointer (some ⟨gh, 0, none⟩)) ?_ hC (Below.refl _ _) (by intro d hd; cases hd; exact rfl)
      (clear hV hI hC; go_simp <;> (first | rfl | simp | (rw [IntKind.wrap_i64]; omega)))
    case o34 =>
      intro Q a w2 hC hV hI
      have e33 : a.eval (.tmp 33) = .pointer (some ⟨gh, 0, none⟩) := hV 33 (by simp [Op.operands]) (by kernel_rfl)
      have f33 : a.tmps.getD 33 undef = .pointer (some ⟨gh, 0, none⟩) := e33
      have g33 : a.tmps[33]?.getD undef = .pointer (some ⟨gh, 0, none⟩) := by rw [← Array.getD_eq_getD_getElem?]; exact e33
      refine op_val (.pointer (some ⟨gh, 0, none⟩)) ?_ hC (Below.refl _ _) (by intro d hd; cases hd; exact rfl)
      (clear hV hI hC; go_simp <;> (first | rfl | simp | (rw [IntKind.wrap_i64]; omega)))
    case o35 =>
      intro Q a w2 hC hV hI
      have e34 : a.eval (.tmp 34) = .pointer (some ⟨gh, 0, none⟩) := hV 34 (by simp [Op.operands]) (by kernel_rfl)
      have f34 : a.tmps.getD 34 undef = .pointer (some ⟨gh, 0, none⟩) := e34
      have g34 : a.tmps[34]?.getD undef = .pointer (some ⟨gh, 0, none⟩) := by rw [← Array.getD_eq_getD_getElem?]; exact e34
      refine op_val (.pointer (some ⟨gh, 8, none⟩)) ?_ hC (Below.refl _ _) (by intro d hd; cases hd; exact rfl)
      (clear hV hI hC; go_simp <;> (first | rfl | simp | (rw [IntKind.wrap_i64]; omega)))
    case o36 =>
      intro Q a w2 hC hV hI
      have e35 : a.eval (.tmp 35) = .pointer (some ⟨gh, 8, none⟩) := hV 35 (by simp [Op.operands]) (by kernel_rfl)
      have f35 : a.tmps.getD 35 undef = .pointer (some ⟨gh, 8, none⟩) := e35
      have g35 : a.tmps[35]?.getD undef = .pointer (some ⟨gh, 8, none⟩) := by rw [← Array.getD_eq_getD_getElem?]; exact e35
      refine op_val (.pointer (some ⟨gh, 9, none⟩)) ?_ hC (Below.refl _ _) (by intro d hd; cases hd; exact rfl)
      (clear hV hI hC; go_simp <;> (first | rfl | simp | (rw [IntKind.wrap_i64]; omega)))
    case o37 =>
      intro Q a w2 hC hV hI
      have e36 : a.eval (.tmp 36) = .pointer (some ⟨gh, 9, none⟩) := hV 36 (by simp [Op.operands]) (by kernel_rfl)
      have f36 : a.tmps.getD 36 undef = .pointer (some ⟨gh, 9, none⟩) := e36
      have g36 : a.tmps[36]?.getD undef = .pointer (some ⟨gh, 9, none⟩) := by rw [← Array.getD_eq_getD_getElem?]; exact e36
      refine op_val (.agg #[.pointer (some ⟨gh, 9, none⟩), .int .i64 6]) ?_ hC (Below.refl _ _) (by intro d hd; cases hd; exact rfl)
      (clear hV hI hC; go_simp <;> (first | rfl | simp | (rw [IntKind.wrap_i64]; omega)))
    case o38 =>
      intro Q a w2 hC hV hI
      have e0 : a.eval (.tmp 0) = .pointer (some ⟨gh, 0, none⟩) := (hI 0 (by simp [Op.operands]) (by kernel_rfl)).trans rfl
      have f0 : a.tmps.getD 0 undef = .pointer (some ⟨gh, 0, none⟩) := e0
      have g0 : a.tmps[0]?.getD undef = .pointer (some ⟨gh, 0, none⟩) := by rw [← Array.getD_eq_getD_getElem?]; exact e0
      refine op_val (.pointer (some ⟨gh, 0, none⟩)) ?_ hC (Below.refl _ _) (by intro d hd; cases hd; exact rfl)
      (clear hV hI hC; go_simp <;> (first | rfl | simp | (rw [IntKind.wrap_i64]; omega)))
    case o39 =>
      intro Q a w2 hC hV hI
      have e38 : a.eval (.tmp 38) = .pointer (some ⟨gh, 0, none⟩) := hV 38 (by simp [Op.operands]) (by kernel_rfl)
      have f38 : a.tmps.getD 38 undef = .pointer (some ⟨gh, 0, none⟩) := e38
      have g38 : a.tmps[38]?.getD undef = .pointer (some ⟨gh, 0, none⟩) := by rw [← Array.getD_eq_getD_getElem?]; exact e38
      refine op_val (.pointer (some ⟨gh, 0, none⟩)) ?_ hC (Below.refl _ _) (by intro d hd; cases hd; exact rfl)
      (clear hV hI hC; go_simp <;> (first | rfl | simp | (rw [IntKind.wrap_i64]; omega)))
    case o40 =>
      intro Q a w2 hC hV hI
      have e39 : a.eval (.tmp 39) = .pointer (some ⟨gh, 0, none⟩) := hV 39 (by simp [Op.operands]) (by kernel_rfl)
      have f39 : a.tmps.getD 39 undef = .pointer (some ⟨gh, 0, none⟩) := e39
      have g39 : a.tmps[39]?.getD undef = .pointer (some ⟨gh, 0, none⟩) := by rw [← Array.getD_eq_getD_getElem?]; exact e39
      refine op_val (.pointer (some ⟨gh, 0, none⟩)) ?_ hC (Below.refl _ _) (by intro d hd; cases hd; exact rfl)
      (clear hV hI hC; go_simp <;> (first | rfl | simp | (rw [IntKind.wrap_i64]; omega)))
    case o41 =>
      intro Q a w2 hC hV hI
      have e40 : a.eval (.tmp 40) = .pointer (some ⟨gh, 0, none⟩) := hV 40 (by simp [Op.operands]) (by kernel_rfl)
      have f40 : a.tmps.getD 40 undef = .pointer (some ⟨gh, 0, none⟩) := e40
      have g40 : a.tmps[40]?.getD undef = .pointer (some ⟨gh, 0, none⟩) := by rw [← Array.getD_eq_getD_getElem?]; exact e40
      refine op_val (.pointer (some ⟨gh, 5, none⟩)) ?_ hC (Below.refl _ _) (by intro d hd; cases hd; exact rfl)
      (clear hV hI hC; go_simp <;> (first | rfl | simp | (rw [IntKind.wrap_i64]; omega)))
    case o42 =>
      intro Q a w2 hC hV hI
      have e41 : a.eval (.tmp 41) = .pointer (some ⟨gh, 5, none⟩) := hV 41 (by simp [Op.operands]) (by kernel_rfl)
      have f41 : a.tmps.getD 41 undef = .pointer (some ⟨gh, 5, none⟩) := e41
      have g41 : a.tmps[41]?.getD undef = .pointer (some ⟨gh, 5, none⟩) := by rw [← Array.getD_eq_getD_getElem?]; exact e41
      refine op_val (.agg #[.pointer (some ⟨gh, 5, none⟩), .int .i64 11]) ?_ hC (Below.refl _ _) (by intro d hd; cases hd; exact rfl)
      (clear hV hI hC; go_simp <;> (first | rfl | simp | (rw [IntKind.wrap_i64]; omega)))
    case o43 =>
      intro Q a w2 hC hV hI
      have e0 : a.eval (.tmp 0) = .pointer (some ⟨gh, 0, none⟩) := (hI 0 (by simp [Op.operands]) (by kernel_rfl)).trans rfl
      have f0 : a.tmps.getD 0 undef = .pointer (some ⟨gh, 0, none⟩) := e0
      have g0 : a.tmps[0]?.getD undef = .pointer (some ⟨gh, 0, none⟩) := by rw [← Array.getD_eq_getD_getElem?]; exact e0
      refine op_val (.pointer (some ⟨gh, 0, none⟩)) ?_ hC (Below.refl _ _) (by intro d hd; cases hd; exact rfl)
      (clear hV hI hC; go_simp <;> (first | rfl | simp | (rw [IntKind.wrap_i64]; omega)))
    case o44 =>
      intro Q a w2 hC hV hI
      have e43 : a.eval (.tmp 43) = .pointer (some ⟨gh, 0, none⟩) := hV 43 (by simp [Op.operands]) (by kernel_rfl)
      have f43 : a.tmps.getD 43 undef = .pointer (some ⟨gh, 0, none⟩) := e43
      have g43 : a.tmps[43]?.getD undef = .pointer (some ⟨gh, 0, none⟩) := by rw [← Array.getD_eq_getD_getElem?]; exact e43
      refine op_val (.pointer (some ⟨gh, 0, none⟩)) ?_ hC (Below.refl _ _) (by intro d hd; cases hd; exact rfl)
      (clear hV hI hC; go_simp <;> (first | rfl | simp | (rw [IntKind.wrap_i64]; omega)))
    case o45 =>
      intro Q a w2 hC hV hI
      have e44 : a.eval (.tmp 44) = .pointer (some ⟨gh, 0, none⟩) := hV 44 (by simp [Op.operands]) (by kernel_rfl)
      have f44 : a.tmps.getD 44 undef = .pointer (some ⟨gh, 0, none⟩) := e44
      have g44 : a.tmps[44]?.getD undef = .pointer (some ⟨gh, 0, none⟩) := by rw [← Array.getD_eq_getD_getElem?]; exact e44
      refine op_val (.pointer (some ⟨gh, 10, none⟩)) ?_ hC (Below.refl _ _) (by intro d hd; cases hd; exact rfl)
      (clear hV hI hC; go_simp <;> (first | rfl | simp | (rw [IntKind.wrap_i64]; omega)))
    case o46 =>
      intro Q a w2 hC hV hI
      have e45 : a.eval (.tmp 45) = .pointer (some ⟨gh, 10, none⟩) := hV 45 (by simp [Op.operands]) (by kernel_rfl)
      have f45 : a.tmps.getD 45 undef = .pointer (some ⟨gh, 10, none⟩) := e45
      have g45 : a.tmps[45]?.getD undef = .pointer (some ⟨gh, 10, none⟩) := by rw [← Array.getD_eq_getD_getElem?]; exact e45
      refine op_val (.agg #[.pointer (some ⟨gh, 10, none⟩), .int .i64 6]) ?_ hC (Below.refl _ _) (by intro d hd; cases hd; exact rfl)
      (clear hV hI hC; go_simp <;> (first | rfl | simp | (rw [IntKind.wrap_i64]; omega)))
    case o47 =>
      intro Q a w2 hC hV hI
      have e0 : a.eval (.tmp 0) = .pointer (some ⟨gh, 0, none⟩) := (hI 0 (by simp [Op.operands]) (by kernel_rfl)).trans rfl
      have f0 : a.tmps.getD 0 undef = .pointer (some ⟨gh, 0, none⟩) := e0
      have g0 : a.tmps[0]?.getD undef = .pointer (some ⟨gh, 0, none⟩) := by rw [← Array.getD_eq_getD_getElem?]; exact e0
      refine op_val (.pointer (some ⟨gh, 0, none⟩)) ?_ hC (Below.refl _ _) (by intro d hd; cases hd; exact rfl)
      (clear hV hI hC; go_simp <;> (first | rfl | simp | (rw [IntKind.wrap_i64]; omega)))
    case o48 =>
      intro Q a w2 hC hV hI
      have e47 : a.eval (.tmp 47) = .pointer (some ⟨gh, 0, none⟩) := hV 47 (by simp [Op.operands]) (by kernel_rfl)
      have f47 : a.tmps.getD 47 undef = .pointer (some ⟨gh, 0, none⟩) := e47
      have g47 : a.tmps[47]?.getD undef = .pointer (some ⟨gh, 0, none⟩) := by rw [← Array.getD_eq_getD_getElem?]; exact e47
      refine op_val (.pointer (some ⟨gh, 0, none⟩)) ?_ hC (Below.refl _ _) (by intro d hd; cases hd; exact rfl)
      (clear hV hI hC; go_simp <;> (first | rfl | simp | (rw [IntKind.wrap_i64]; omega)))
    case o49 =>
      intro Q a w2 hC hV hI
      have e48 : a.eval (.tmp 48) = .pointer (some ⟨gh, 0, none⟩) := hV 48 (by simp [Op.operands]) (by kernel_rfl)
      have f48 : a.tmps.getD 48 undef = .pointer (some ⟨gh, 0, none⟩) := e48
      have g48 : a.tmps[48]?.getD undef = .pointer (some ⟨gh, 0, none⟩) := by rw [← Array.getD_eq_getD_getElem?]; exact e48
      refine op_val (.pointer (some ⟨gh, 11, none⟩)) ?_ hC (Below.refl _ _) (by intro d hd; cases hd; exact rfl)
      (clear hV hI hC; go_simp <;> (first | rfl | simp | (rw [IntKind.wrap_i64]; omega)))
    case o50 =>
      intro Q a w2 hC hV hI
      have e49 : a.eval (.tmp 49) = .pointer (some ⟨gh, 11, none⟩) := hV 49 (by simp [Op.operands]) (by kernel_rfl)
      have f49 : a.tmps.getD 49 undef = .pointer (some ⟨gh, 11, none⟩) := e49
      have g49 : a.tmps[49]?.getD undef = .pointer (some ⟨gh, 11, none⟩) := by rw [← Array.getD_eq_getD_getElem?]; exact e49
      refine op_val (.agg #[.pointer (some ⟨gh, 11, none⟩), .int .i64 11]) ?_ hC (Below.refl _ _) (by intro d hd; cases hd; exact rfl)
      (clear hV hI hC; go_simp <;> (first | rfl | simp | (rw [IntKind.wrap_i64]; omega)))
    case o51 =>
      intro Q a w2 hC hV hI
      have e7 : a.eval (.tmp 7) = .agg #[.pointer (some ⟨gh, 8, none⟩), .int .i64 6] := hV 7 (by simp [Op.operands]) (by kernel_rfl)
      have f7 : a.tmps.getD 7 undef = .agg #[.pointer (some ⟨gh, 8, none⟩), .int .i64 6] := e7
      have g7 : a.tmps[7]?.getD undef = .agg #[.pointer (some ⟨gh, 8, none⟩), .int .i64 6] := by rw [← Array.getD_eq_getD_getElem?]; exact e7
      have e12 : a.eval (.tmp 12) = .agg #[.pointer (some ⟨gh, 0, none⟩), .int .i64 6] := hV 12 (by simp [Op.operands]) (by kernel_rfl)
      have f12 : a.tmps.getD 12 undef = .agg #[.pointer (some ⟨gh, 0, none⟩), .int .i64 6] := e12
      have g12 : a.tmps[12]?.getD undef = .agg #[.pointer (some ⟨gh, 0, none⟩), .int .i64 6] := by rw [← Array.getD_eq_getD_getElem?]; exact e12
      have e17 : a.eval (.tmp 17) = .agg #[.pointer (some ⟨gh, 1, none⟩), .int .i64 6] := hV 17 (by simp [Op.operands]) (by kernel_rfl)
      have f17 : a.tmps.getD 17 undef = .agg #[.pointer (some ⟨gh, 1, none⟩), .int .i64 6] := e17
      have g17 : a.tmps[17]?.getD undef = .agg #[.pointer (some ⟨gh, 1, none⟩), .int .i64 6] := by rw [← Array.getD_eq_getD_getElem?]; exact e17
      have e22 : a.eval (.tmp 22) = .agg #[.pointer (some ⟨gh, 2, none⟩), .int .i64 6] := hV 22 (by simp [Op.operands]) (by kernel_rfl)
      have f22 : a.tmps.getD 22 undef = .agg #[.pointer (some ⟨gh, 2, none⟩), .int .i64 6] := e22
      have g22 : a.tmps[22]?.getD undef = .agg #[.pointer (some ⟨gh, 2, none⟩), .int .i64 6] := by rw [← Array.getD_eq_getD_getElem?]; exact e22
      have e27 : a.eval (.tmp 27) = .agg #[.pointer (some ⟨gh, 3, none⟩), .int .i64 6] := hV 27 (by simp [Op.operands]) (by kernel_rfl)
      have f27 : a.tmps.getD 27 undef = .agg #[.pointer (some ⟨gh, 3, none⟩), .int .i64 6] := e27
      have g27 : a.tmps[27]?.getD undef = .agg #[.pointer (some ⟨gh, 3, none⟩), .int .i64 6] := by rw [← Array.getD_eq_getD_getElem?]; exact e27
      have e32 : a.eval (.tmp 32) = .agg #[.pointer (some ⟨gh, 4, none⟩), .int .i64 6] := hV 32 (by simp [Op.operands]) (by kernel_rfl)
      have f32 : a.tmps.getD 32 undef = .agg #[.pointer (some ⟨gh, 4, none⟩), .int .i64 6] := e32
      have g32 : a.tmps[32]?.getD undef = .agg #[.pointer (some ⟨gh, 4, none⟩), .int .i64 6] := by rw [← Array.getD_eq_getD_getElem?]; exact e32
      have e37 : a.eval (.tmp 37) = .agg #[.pointer (some ⟨gh, 9, none⟩), .int .i64 6] := hV 37 (by simp [Op.operands]) (by kernel_rfl)
      have f37 : a.tmps.getD 37 undef = .agg #[.pointer (some ⟨gh, 9, none⟩), .int .i64 6] := e37
      have g37 : a.tmps[37]?.getD undef = .agg #[.pointer (some ⟨gh, 9, none⟩), .int .i64 6] := by rw [← Array.getD_eq_getD_getElem?]; exact e37
      have e42 : a.eval (.tmp 42) = .agg #[.pointer (some ⟨gh, 5, none⟩), .int .i64 11] := hV 42 (by simp [Op.operands]) (by kernel_rfl)
      have f42 : a.tmps.getD 42 undef = .agg #[.pointer (some ⟨gh, 5, none⟩), .int .i64 11] := e42
      have g42 : a.tmps[42]?.getD undef = .agg #[.pointer (some ⟨gh, 5, none⟩), .int .i64 11] := by rw [← Array.getD_eq_getD_getElem?]; exact e42
      have e46 : a.eval (.tmp 46) = .agg #[.pointer (some ⟨gh, 10, none⟩), .int .i64 6] := hV 46 (by simp [Op.operands]) (by kernel_rfl)
      have f46 : a.tmps.getD 46 undef = .agg #[.pointer (some ⟨gh, 10, none⟩), .int .i64 6] := e46
      have g46 : a.tmps[46]?.getD undef = .agg #[.pointer (some ⟨gh, 10, none⟩), .int .i64 6] := by rw [← Array.getD_eq_getD_getElem?]; exact e46
      have e50 : a.eval (.tmp 50) = .agg #[.pointer (some ⟨gh, 11, none⟩), .int .i64 11] := hV 50 (by simp [Op.operands]) (by kernel_rfl)
      have f50 : a.tmps.getD 50 undef = .agg #[.pointer (some ⟨gh, 11, none⟩), .int .i64 11] := e50
      have g50 : a.tmps[50]?.getD undef = .agg #[.pointer (some ⟨gh, 11, none⟩), .int .i64 11] := by rw [← Array.getD_eq_getD_getElem?]; exact e50
      refine op_val (.slice (some ⟨w2.heap.size, 0, none⟩) 10 10) (w' := w2.alloc (.cells #[.pointer (some ⟨gh, 8, none⟩), .int .i64 6, .pointer (some ⟨gh, 0, none⟩), .int .i64 6, .pointer (some ⟨gh, 1, none⟩), .int .i64 6, .pointer (some ⟨gh, 2, none⟩), .int .i64 6, .pointer (some ⟨gh, 3, none⟩), .int .i64 6, .pointer (some ⟨gh, 4, none⟩), .int .i64 6, .pointer (some ⟨gh, 9, none⟩), .int .i64 6, .pointer (some ⟨gh, 5, none⟩), .int .i64 11, .pointer (some ⟨gh, 10, none⟩), .int .i64 6, .pointer (some ⟨gh, 11, none⟩), .int .i64 11] 175)) ?_ (hC.alloc hC.size _) ((Below.refl _ _).alloc (Nat.le_refl _) _) ?_
      · (clear hV hI hC; go_simp <;> (first | rfl | simp | (rw [IntKind.wrap_i64]; omega)))
      · intro d hd; cases hd; exact ⟨w2.heap.size, rfl, hC.size, heap_lastG _ _⟩
  case hend =>
    intro f w2 hC hall
    simp only [List.take_succ_cons, List.take_zero, List.drop_succ_cons, List.drop_zero] at hall ⊢
    simp only [List.forall_mem_cons] at hall
    obtain ⟨h3, h4, h5, h6, h7, h8, h9, h10, h11, h12, h13, h14, h15, h16, h17, h18, h19, h20, h21, h22, h23, h24, h25, h26, h27, h28, h29, h30, h31, h32, h33, h34, h35, h36, h37, h38, h39, h40, h41, h42, h43, h44, h45, h46, h47, h48, h49, h50, h51, _⟩ := hall
    replace h3 : f 3 = .pointer (some ⟨gh, 0, none⟩) := h3 3 rfl
    replace h4 : f 4 = .pointer (some ⟨gh, 0, none⟩) := h4 4 rfl
    replace h5 : f 5 = .pointer (some ⟨gh, 8, none⟩) := h5 5 rfl
    replace h6 : f 6 = .pointer (some ⟨gh, 8, none⟩) := h6 6 rfl
    replace h7 : f 7 = .agg #[.pointer (some ⟨gh, 8, none⟩), .int .i64 6] := h7 7 rfl
    replace h8 : f 8 = .pointer (some ⟨gh, 0, none⟩) := h8 8 rfl
    replace h9 : f 9 = .pointer (some ⟨gh, 0, none⟩) := h9 9 rfl
    replace h10 : f 10 = .pointer (some ⟨gh, 0, none⟩) := h10 10 rfl
    replace h11 : f 11 = .pointer (some ⟨gh, 0, none⟩) := h11 11 rfl
    replace h12 : f 12 = .agg #[.pointer (some ⟨gh, 0, none⟩), .int .i64 6] := h12 12 rfl
    replace h13 : f 13 = .pointer (some ⟨gh, 0, none⟩) := h13 13 rfl
    replace h14 : f 14 = .pointer (some ⟨gh, 0, none⟩) := h14 14 rfl
    replace h15 : f 15 = .pointer (some ⟨gh, 0, none⟩) := h15 15 rfl
    replace h16 : f 16 = .pointer (some ⟨gh, 1, none⟩) := h16 16 rfl
    replace h17 : f 17 = .agg #[.pointer (some ⟨gh, 1, none⟩), .int .i64 6] := h17 17 rfl
    replace h18 : f 18 = .pointer (some ⟨gh, 0, none⟩) := h18 18 rfl
    replace h19 : f 19 = .pointer (some ⟨gh, 0, none⟩) := h19 19 rfl
    replace h20 : f 20 = .pointer (some ⟨gh, 0, none⟩) := h20 20 rfl
    replace h21 : f 21 = .pointer (some ⟨gh, 2, none⟩) := h21 21 rfl
    replace h22 : f 22 = .agg #[.pointer (some ⟨gh, 2, none⟩), .int .i64 6] := h22 22 rfl
    replace h23 : f 23 = .pointer (some ⟨gh, 0, none⟩) := h23 23 rfl
    replace h24 : f 24 = .pointer (some ⟨gh, 0, none⟩) := h24 24 rfl
    replace h25 : f 25 = .pointer (some ⟨gh, 0, none⟩) := h25 25 rfl
    replace h26 : f 26 = .pointer (some ⟨gh, 3, none⟩) := h26 26 rfl
    replace h27 : f 27 = .agg #[.pointer (some ⟨gh, 3, none⟩), .int .i64 6] := h27 27 rfl
    replace h28 : f 28 = .pointer (some ⟨gh, 0, none⟩) := h28 28 rfl
    replace h29 : f 29 = .pointer (some ⟨gh, 0, none⟩) := h29 29 rfl
    replace h30 : f 30 = .pointer (some ⟨gh, 0, none⟩) := h30 30 rfl
    replace h31 : f 31 = .pointer (some ⟨gh, 4, none⟩) := h31 31 rfl
    replace h32 : f 32 = .agg #[.pointer (some ⟨gh, 4, none⟩), .int .i64 6] := h32 32 rfl
    replace h33 : f 33 = .pointer (some ⟨gh, 0, none⟩) := h33 33 rfl
    replace h34 : f 34 = .pointer (some ⟨gh, 0, none⟩) := h34 34 rfl
    replace h35 : f 35 = .pointer (some ⟨gh, 8, none⟩) := h35 35 rfl
    replace h36 : f 36 = .pointer (some ⟨gh, 9, none⟩) := h36 36 rfl
    replace h37 : f 37 = .agg #[.pointer (some ⟨gh, 9, none⟩), .int .i64 6] := h37 37 rfl
    replace h38 : f 38 = .pointer (some ⟨gh, 0, none⟩) := h38 38 rfl
    replace h39 : f 39 = .pointer (some ⟨gh, 0, none⟩) := h39 39 rfl
    replace h40 : f 40 = .pointer (some ⟨gh, 0, none⟩) := h40 40 rfl
    replace h41 : f 41 = .pointer (some ⟨gh, 5, none⟩) := h41 41 rfl
    replace h42 : f 42 = .agg #[.pointer (some ⟨gh, 5, none⟩), .int .i64 11] := h42 42 rfl
    replace h43 : f 43 = .pointer (some ⟨gh, 0, none⟩) := h43 43 rfl
    replace h44 : f 44 = .pointer (some ⟨gh, 0, none⟩) := h44 44 rfl
    replace h45 : f 45 = .pointer (some ⟨gh, 10, none⟩) := h45 45 rfl
    replace h46 : f 46 = .agg #[.pointer (some ⟨gh, 10, none⟩), .int .i64 6] := h46 46 rfl
    replace h47 : f 47 = .pointer (some ⟨gh, 0, none⟩) := h47 47 rfl
    replace h48 : f 48 = .pointer (some ⟨gh, 0, none⟩) := h48 48 rfl
    replace h49 : f 49 = .pointer (some ⟨gh, 11, none⟩) := h49 49 rfl
    replace h50 : f 50 = .agg #[.pointer (some ⟨gh, 11, none⟩), .int .i64 11] := h50 50 rfl
    obtain ⟨G51, hG51, hGB51, hGO51⟩ : ∃ G, f 51 = .slice (some ⟨G, 0, none⟩) 10 10 ∧ w.heap.size ≤ G ∧ w2.heap[G]? = some (.cells #[.pointer (some ⟨gh, 8, none⟩), .int .i64 6, .pointer (some ⟨gh, 0, none⟩), .int .i64 6, .pointer (some ⟨gh, 1, none⟩), .int .i64 6, .pointer (some ⟨gh, 2, none⟩), .int .i64 6, .pointer (some ⟨gh, 3, none⟩), .int .i64 6, .pointer (some ⟨gh, 4, none⟩), .int .i64 6, .pointer (some ⟨gh, 9, none⟩), .int .i64 6, .pointer (some ⟨gh, 5, none⟩), .int .i64 11, .pointer (some ⟨gh, 10, none⟩), .int .i64 6, .pointer (some ⟨gh, 11, none⟩), .int .i64 11] 175 (0, 0)) := h51 51 rfl
    simp only [putAll, Act.put, List.setIfInBounds_toArray, List.set_cons_succ, List.set_cons_zero, h3, h4, h5, h6, h7, h8, h9, h10, h11, h12, h13, h14, h15, h16, h17, h18, h19, h20, h21, h22, h23, h24, h25, h26, h27, h28, h29, h30, h31, h32, h33, h34, h35, h36, h37, h38, h39, h40, h41, h42, h43, h44, h45, h46, h47, h48, h49, h50, hG51]
    clear h3 h4 h5 h6 h7 h8 h9 h10 h11 h12 h13 h14 h15 h16 h17 h18 h19 h20 h21 h22 h23 h24 h25 h26 h27 h28 h29 h30 h31 h32 h33 h34 h35 h36 h37 h38 h39 h40 h41 h42 h43 h44 h45 h46 h47 h48 h49 h50 hG51 h51
    go_wp2_with fail
    go_ret
    exact ⟨G51, rfl, hGB51, hGO51, hC⟩
theorem ownB_belowK {w w' : World} {base : Nat} {v : Value} {l : List UInt8} (h : OwnB w base v l) (hb : Below w.heap.size w w') : OwnB w' base v l :=
  World.ownsRow.kept h (row := none) ⟨hb.os, hb.tape, hb.output, hb.size, fun k hk _ => hb.block k hk⟩ (by cases hv : v.ownBlock <;> simp)
theorem textK {w : World} {base n : Nat} {v : Value} {l : List UInt8} {s : ByteArray} (hn : n = l.length + s.size) (h : w.ownsRow base 5 1 v n (byteVals l ++ Lib.strCells s)) : OwnB w base v (l ++ s.data.toList) := by
  subst hn
  have e : byteVals l ++ Lib.strCells s = byteVals (l ++ s.data.toList) := by simp [byteVals, Lib.strCells]
  rw [e, show l.length + s.size = (l ++ s.data.toList).length from by simp] at h
  exact h
/-- What the digits of a list of numbers are, or the panic where one has no room. -/
def digE (L : List (Int × Int)) : Ending := if octsOk L then .returned (.string (octsS L)) else .panicked (panC 3)
end Go.Proofs.YtcnmbolmgifgfabGreatDoor

/- Contract of impl.(*odcHead).digits. -/
namespace Go.Proofs.YtcnmbolmgifgfabGreatDoor
open Go.ChangeShapes Go.WideShapes Go.ChangeAt Go.RowKit Go.Deep

theorem own_ne_ty {w : World} {base : Nat} {e t : TypeId} {v : Value} {n g : Nat} {xs : List Value} {cs : Array Value} {fr : Nat × Nat} (h : w.ownsRow base e 1 v n xs) (hg : w.heap[g]? = some (.cells cs t fr)) (ht : ¬ t = e) : some g ≠ v.ownBlock := by
  intro e1
  rcases h.2 with ⟨h0, _⟩ | ⟨g', cap', cur, hv, hg', hh, _⟩
  · subst h0; simp [Value.ownBlock] at e1
  · subst hv
    simp [Value.ownBlock] at e1
    subst e1
    rw [hg] at hh
    simp at hh
    exact ht hh.2.1
/-- The numbers of a head, each at its place. -/
def NumsAt (w : World) (gh : Nat) (L : List (Int × Int)) : Prop := ∀ i x, L[i]? = some x → w.cell? ⟨gh, offv i, none⟩ = some (.int .i64 x.1)
theorem NumsAt.below {w w' : World} {gh B : Nat} {L : List (Int × Int)} (h : NumsAt w gh L) (hb : Below B w w') (hg : gh < B) : NumsAt w' gh L := fun i x hx => (hb.cell (p := ⟨gh, offv i, none⟩) hg).trans (h i x hx)
theorem field_at {w : World} {G gh : Nat} {ty : TypeId} (h : w.heap[G]? = some (.cells (fieldCells gh) ty (0, 0))) {L : List (Int × Int)} (hL : L.map Prod.snd = wideC) {i : Nat} {x : Int × Int} (hx : L[i]? = some x) : w.cell? ⟨G, i * 2, none⟩ = some (.pointer (some ⟨gh, offv i, none⟩)) ∧ w.cell? ⟨G, i * 2 + 1, none⟩ = some (.int .i64 x.2) := by
  have hi : i < 10 := by
    have h1 := (List.getElem?_eq_some_iff.1 hx).1
    have h2 := congrArg List.length hL
    simp [wideC] at h2
    omega
  have h2 : wideC[i]? = some x.2 := by rw [← hL]; simp [hx]
  simp only [World.cell?, h]
  match i, hi, h2 with
  | 0, _, h2 => simp [fieldCells, offv, wideC] at h2 ⊢; exact h2
  | 1, _, h2 => simp [fieldCells, offv, wideC] at h2 ⊢; exact h2
  | 2, _, h2 => simp [fieldCells, offv, wideC] at h2 ⊢; exact h2
  | 3, _, h2 => simp [fieldCells, offv, wideC] at h2 ⊢; exact h2
  | 4, _, h2 => simp [fieldCells, offv, wideC] at h2 ⊢; exact h2
  | 5, _, h2 => simp [fieldCells, offv, wideC] at h2 ⊢; exact h2
  | 6, _, h2 => simp [fieldCells, offv, wideC] at h2 ⊢; exact h2
  | 7, _, h2 => simp [fieldCells, offv, wideC] at h2 ⊢; exact h2
  | 8, _, h2 => simp [fieldCells, offv, wideC] at h2 ⊢; exact h2
  | 9, _, h2 => simp [fieldCells, offv, wideC] at h2 ⊢; exact h2
set_option maxHeartbeats 6400000 in
set_option maxRecDepth 8000 in
theorem digits_any (L : List (Int × Int)) (gh : Nat) (w : World) (hL : L.map Prod.snd = wideC) (hg : gh < w.heap.size) (hN : NumsAt w gh L) (hT : Tabs w) :
    Calls Tryz.prog 110 #[.pointer (some ⟨gh, 0, none⟩)] w fun e w' => e = digE L ∧ Below w.heap.size w w' := by
  obtain ⟨i0, hi0, hz0, hz1, hz2⟩ := info_parts Tryz.info5
  have HN := Lib.hid hN
  have HT := Lib.hid hT
  have hlen : L.length = 10 := by have := congrArg List.length hL; simpa [wideC] using this
  have HA := Lib.hid (fun (w : World) (G : Nat) (h : w.heap[G]? = some (.cells (fieldCells gh) 175 (0, 0))) i x (hx : L[i]? = some x) => field_at h hL hx)
  have HG : Hid (∀ i, i < 10 → ∃ x, L[i]? = some x) := Lib.hid (fun i hi => ⟨L[i], List.getElem?_eq_getElem (by omega)⟩)
  have HS := Lib.hid (fun i x (h : L[i]? = some x) => octs_take h)
  have HK := Lib.hid (fun i x (h : L[i]? = some x) => octsOk_take h)
  have HB := Lib.hid (fun i x (h : L[i]? = some x) hk => octsOk_bad h hk)
  have HZ : Hid (octsS (L.take 0) = ⟨#[]⟩ ∧ octsOk (L.take 0) = true) := Lib.hid ⟨rfl, rfl⟩
  have HF : Hid (octsS (L.take 10) = octsS L ∧ octsOk (L.take 10) = octsOk L) := Lib.hid (by rw [← hlen, List.take_length]; exact ⟨rfl, rfl⟩)
  have HLe : Hid (∀ i, (octsS (L.take i)).size ≤ 200) := Lib.hid (fun i => by have h8 := octsS_le (L.take i); rw [List.length_take] at h8; omega)
  have HPl := Lib.hid putOct_le
  have HE : Hid (digE L = if octsOk L then .returned (.string (octsS L)) else .panicked (panC 3)) := Lib.hid rfl
  generalize digE L = E at HE
  generalize octsOk L = ok at HF HB HE
  generalize octsS L = r at HF HE
  clear hN hT hL hlen
  go_enter Tryz.func110, Tryz.ntmps110
  go_wp2_with fail
  refine (fields_any gh _).mono ?_
  rintro e w1 ⟨G, rfl, hG1, hG2, hb⟩
  have B := Lib.hid hb
  have F := Lib.hid hG2
  have O0 : Hid (OwnB w1 w.heap.size (.slice none 0 0) []) := Lib.hid ⟨rfl, .inl ⟨rfl, rfl⟩⟩
  have hGl := (Array.getElem?_eq_some_iff.1 hG2).1
  clear hb hG2
  go_wp2_with fail
  go_loopw [3, 5, 6, 7, 11] (fun v _ _ _ u wr => ∃ i : Nat, u = .int .i64 i ∧ i ≤ 10 ∧ octsOk (L.take i) = true ∧ OwnB wr w.heap.size v (octsS (L.take i)).data.toList ∧ wr.heap[G]? = some (.cells (fieldCells gh) 175 (0, 0)) ∧ some G ≠ v.ownBlock ∧ Below w.heap.size w wr) (fun _ _ _ _ u _ => 10 - (intOf u).toNat)
  case atStart => exact ⟨0, rfl, Nat.zero_le _, HZ.out.2, by rw [HZ.out.1]; exact O0.out, F.out, by simp [Value.ownBlock], B.out⟩
  case round =>
    obtain ⟨i, rfl, hi, hok, ho, hf, hne, hb⟩ := hrel
    obtain ⟨w5, hw5⟩ : ∃ wo, wo = wr := ⟨_, rfl⟩
    subst hw5
    clear O0 F B
    have B := Lib.hid hb
    have O := Lib.hid ho
    have F := Lib.hid hf
    have hszB := B.out.size
    have HOk := Lib.hid hok
    have hGl := (Array.getElem?_eq_some_iff.1 hf).1
    clear hb hok ho hf
    by_cases hlt : i < 10
    · have hlt2 : (i : Int) < 10 := by omega
      obtain ⟨⟨x, y⟩, hx⟩ := HG.out i hlt
      have HS2 := Lib.hid (HS.out i _ hx)
      have HK2 := Lib.hid (HK.out i _ hx)
      have HB2 := Lib.hid (HB.out i _ hx)
      obtain ⟨c0, c1⟩ := HA.out w5 G F.out i _ hx
      have cN := (B.out.cell (p := ⟨gh, offv i, none⟩) hg).trans (HN.out i _ hx)
      simp only at HS2 HK2 HB2 c0 c1 cN
      have hle := HLe.out i
      have hpl := HPl.out x y
      have HPx := Lib.hid (fun w h => putOct_impl x y w h)
      clear hx HS HK HB HG HA HN
      obtain ⟨T, hTe⟩ : ∃ T, octsS (L.take i) = T := ⟨_, rfl⟩
      rw [hTe] at HS2 hle O
      clear hTe
      generalize (putOctv x y).1 = q at HS2 hpl HPx
      generalize (putOctv x y).2 = b at HB2 HK2 HPx
      generalize offv i = oi at c0 cN
      have HTs := Lib.hid (fun w' (hb : Below w.heap.size w w') => HPx.out w' (HT.out.below hb))
      clear HPx
      go_upto_region 5 with fail
      generalize hw6 : World.alloc w5 _ = w6
      have NB : Below w5.heap.size w5 w6 := by rw [← hw6]; exact (Below.refl _ _).alloc (Nat.le_refl _) _
      have XB : w6.heap[w5.heap.size]? = some (.cells #[.pointer (some ⟨gh, oi, none⟩), .int .i64 y] 175 (0, 0)) := by rw [← hw6]; exact heap_lastG _ _
      clear hw6 c0 c1
      have zbx := (Array.getElem?_eq_some_iff.1 XB).1
      replace O := Lib.hid (ownB_belowK O.out NB)
      replace F := Lib.hid ((NB.block G hGl).trans F.out)
      replace B := Lib.hid (B.out.trans (NB.mono hszB))
      have hsz6 := B.out.size
      have KC : Hid (∀ w', Below w6.heap.size w6 w' → w'.cell? ⟨w5.heap.size, 0, none⟩ = some (.pointer (some ⟨gh, oi, none⟩)) ∧ w'.cell? ⟨w5.heap.size, 1, none⟩ = some (.int .i64 y) ∧ w'.cell? ⟨gh, oi, none⟩ = some (.int .i64 x)) := Lib.hid (fun w' hb => by
        have h1 := (hb.block _ zbx).trans XB
        exact ⟨by simp [World.cell?, h1], by simp [World.cell?, h1], (hb.cell (p := ⟨gh, oi, none⟩) (by simp; omega)).trans ((NB.cell (p := ⟨gh, oi, none⟩) (by simp; omega)).trans cN)⟩)
      have HPy := Lib.hid (fun w' (hb : Below w6.heap.size w6 w') => HTs.out w' (B.out.trans (hb.mono hsz6)))
      clear NB XB HTs cN
      refine wp_region_inv (by kernel_rfl) (fun w' => Below w6.heap.size w6 w') (fun x y => Below x.heap.size x y) (fun dq vq _ => match dq with | 16 => vq = .pointer (some ⟨w5.heap.size, 0, none⟩) | 17 => vq = .pointer (some ⟨gh, oi, none⟩) | 18 => vq = .pointer (some ⟨gh, oi, none⟩) | 19 => vq = .int .i64 x | 20 => vq = .pointer (some ⟨w5.heap.size, 1, none⟩) | 21 => vq = .int .i64 y | 22 => vq = .tuple #[.string q, .bool b] | 15 => vq = .tuple #[.string q, .bool b] | 23 => vq = .string q | 24 => vq = .bool b | 6 => vq = .string q | 7 => vq = .bool b | _ => True) (by kernel_rfl) ((Below.refl _ _).drew) (fun _ _ _ _ _ _ h => h) ?hops ?hend
      case hops =>
        simp only [List.forall_mem_cons]
        refine ⟨?o16, ?o17, ?o18, ?o19, ?o20, ?o21, ?o22, ?o15, ?o23, ?o24, ?o6, ?o7, fun _ h => by cases h⟩
        case o16 =>
          intro Q a w2 hC hV hI
          have e5 : a.eval (.tmp 5) = .pointer (some ⟨w5.heap.size, 0, none⟩) := (hI 5 (by simp [Op.operands]) (by kernel_rfl)).trans rfl
          have f5 : a.tmps.getD 5 undef = .pointer (some ⟨w5.heap.size, 0, none⟩) := e5
          have g5 : a.tmps[5]?.getD undef = .pointer (some ⟨w5.heap.size, 0, none⟩) := by rw [← Array.getD_eq_getD_getElem?]; exact e5
          refine op_val (.pointer (some ⟨w5.heap.size, 0, none⟩)) ?_ hC (Below.refl _ _) (by intro d hd; cases hd; rfl)
          (clear hV hI hC; go_simp <;> (first | rfl | simp | (rw [IntKind.wrap_i64]; omega)))
        case o17 =>
          intro Q a w2 hC hV hI
          have e16 : a.eval (.tmp 16) = .pointer (some ⟨w5.heap.size, 0, none⟩) := hV 16 (by simp [Op.operands]) (by kernel_rfl)
          have f16 : a.tmps.getD 16 undef = .pointer (some ⟨w5.heap.size, 0, none⟩) := e16
          have g16 : a.tmps[16]?.getD undef = .pointer (some ⟨w5.heap.size, 0, none⟩) := by rw [← Array.getD_eq_getD_getElem?]; exact e16
          have hK := KC.out w2 hC
          refine op_val (.pointer (some ⟨gh, oi, none⟩)) ?_ hC (Below.refl _ _) (by intro d hd; cases hd; rfl)
          (clear hV hI hC; go_simp <;> (first | rfl | simp | (rw [IntKind.wrap_i64]; omega)))
        case o18 =>
          intro Q a w2 hC hV hI
          have e17 : a.eval (.tmp 17) = .pointer (some ⟨gh, oi, none⟩) := hV 17 (by simp [Op.operands]) (by kernel_rfl)
          have f17 : a.tmps.getD 17 undef = .pointer (some ⟨gh, oi, none⟩) := e17
          have g17 : a.tmps[17]?.getD undef = .pointer (some ⟨gh, oi, none⟩) := by rw [← Array.getD_eq_getD_getElem?]; exact e17
          refine op_val (.pointer (some ⟨gh, oi, none⟩)) ?_ hC (Below.refl _ _) (by intro d hd; cases hd; rfl)
          (clear hV hI hC; go_simp <;> (first | rfl | simp | (rw [IntKind.wrap_i64]; omega)))
        case o19 =>
          intro Q a w2 hC hV hI
          have e18 : a.eval (.tmp 18) = .pointer (some ⟨gh, oi, none⟩) := hV 18 (by simp [Op.operands]) (by kernel_rfl)
          have f18 : a.tmps.getD 18 undef = .pointer (some ⟨gh, oi, none⟩) := e18
          have g18 : a.tmps[18]?.getD undef = .pointer (some ⟨gh, oi, none⟩) := by rw [← Array.getD_eq_getD_getElem?]; exact e18
          have hK := KC.out w2 hC
          refine op_val (.int .i64 x) ?_ hC (Below.refl _ _) (by intro d hd; cases hd; rfl)
          (clear hV hI hC; go_simp <;> (first | rfl | simp | (rw [IntKind.wrap_i64]; omega)))
        case o20 =>
          intro Q a w2 hC hV hI
          have e5 : a.eval (.tmp 5) = .pointer (some ⟨w5.heap.size, 0, none⟩) := (hI 5 (by simp [Op.operands]) (by kernel_rfl)).trans rfl
          have f5 : a.tmps.getD 5 undef = .pointer (some ⟨w5.heap.size, 0, none⟩) := e5
          have g5 : a.tmps[5]?.getD undef = .pointer (some ⟨w5.heap.size, 0, none⟩) := by rw [← Array.getD_eq_getD_getElem?]; exact e5
          refine op_val (.pointer (some ⟨w5.heap.size, 1, none⟩)) ?_ hC (Below.refl _ _) (by intro d hd; cases hd; rfl)
          (clear hV hI hC; go_simp <;> (first | rfl | simp | (rw [IntKind.wrap_i64]; omega)))
        case o21 =>
          intro Q a w2 hC hV hI
          have e20 : a.eval (.tmp 20) = .pointer (some ⟨w5.heap.size, 1, none⟩) := hV 20 (by simp [Op.operands]) (by kernel_rfl)
          have f20 : a.tmps.getD 20 undef = .pointer (some ⟨w5.heap.size, 1, none⟩) := e20
          have g20 : a.tmps[20]?.getD undef = .pointer (some ⟨w5.heap.size, 1, none⟩) := by rw [← Array.getD_eq_getD_getElem?]; exact e20
          have hK := KC.out w2 hC
          refine op_val (.int .i64 y) ?_ hC (Below.refl _ _) (by intro d hd; cases hd; rfl)
          (clear hV hI hC; go_simp <;> (first | rfl | simp | (rw [IntKind.wrap_i64]; omega)))
        case o22 =>
          intro Q a w2 hC hV hI
          have e19 : a.eval (.tmp 19) = .int .i64 x := hV 19 (by simp [Op.operands, Call.operands]) (by kernel_rfl)
          have f19 : a.tmps.getD 19 undef = .int .i64 x := e19
          have g19 : a.tmps[19]?.getD undef = .int .i64 x := by rw [← Array.getD_eq_getD_getElem?]; exact e19
          have e21 : a.eval (.tmp 21) = .int .i64 y := hV 21 (by simp [Op.operands, Call.operands]) (by kernel_rfl)
          have f21 : a.tmps.getD 21 undef = .int .i64 y := e21
          have g21 : a.tmps[21]?.getD undef = .int .i64 y := by rw [← Array.getD_eq_getD_getElem?]; exact e21
          refine op_call (f := 150) (args := #[.int .i64 x, .int .i64 y]) (R := fun v y => v = .tuple #[.string q, .bool b] ∧ Below w2.heap.size w2 y) ?_ ((HPy.out w2 hC).mono ?_) ?_
          · (clear hV hI hC; go_simp <;> (first | rfl | simp | (rw [IntKind.wrap_i64]; omega)))
          · rintro e y ⟨rfl, hb⟩; exact ⟨_, rfl, rfl, hb⟩
          · rintro v y ⟨rfl, hb⟩; exact ⟨hC.trans (hb.mono hC.size), hb, by intro d hd; cases hd; rfl⟩
        case o15 =>
          intro Q a w2 hC hV hI
          have e22 : a.eval (.tmp 22) = .tuple #[.string q, .bool b] := hV 22 (by simp [Op.operands]) (by kernel_rfl)
          have f22 : a.tmps.getD 22 undef = .tuple #[.string q, .bool b] := e22
          have g22 : a.tmps[22]?.getD undef = .tuple #[.string q, .bool b] := by rw [← Array.getD_eq_getD_getElem?]; exact e22
          refine op_val (.tuple #[.string q, .bool b]) ?_ hC (Below.refl _ _) (by intro d hd; cases hd; rfl)
          (clear hV hI hC; go_simp <;> (first | rfl | simp | (rw [IntKind.wrap_i64]; omega)))
        case o23 =>
          intro Q a w2 hC hV hI
          have e15 : a.eval (.tmp 15) = .tuple #[.string q, .bool b] := hV 15 (by simp [Op.operands]) (by kernel_rfl)
          have f15 : a.tmps.getD 15 undef = .tuple #[.string q, .bool b] := e15
          have g15 : a.tmps[15]?.getD undef = .tuple #[.string q, .bool b] := by rw [← Array.getD_eq_getD_getElem?]; exact e15
          refine op_val (.string q) ?_ hC (Below.refl _ _) (by intro d hd; cases hd; rfl)
          (clear hV hI hC; go_simp <;> (first | rfl | simp | (rw [IntKind.wrap_i64]; omega)))
        case o24 =>
          intro Q a w2 hC hV hI
          have e15 : a.eval (.tmp 15) = .tuple #[.string q, .bool b] := hV 15 (by simp [Op.operands]) (by kernel_rfl)
          have f15 : a.tmps.getD 15 undef = .tuple #[.string q, .bool b] := e15
          have g15 : a.tmps[15]?.getD undef = .tuple #[.string q, .bool b] := by rw [← Array.getD_eq_getD_getElem?]; exact e15
          refine op_val (.bool b) ?_ hC (Below.refl _ _) (by intro d hd; cases hd; rfl)
          (clear hV hI hC; go_simp <;> (first | rfl | simp | (rw [IntKind.wrap_i64]; omega)))
        case o6 =>
          intro Q a w2 hC hV hI
          have e23 : a.eval (.tmp 23) = .string q := hV 23 (by simp [Op.operands]) (by kernel_rfl)
          have f23 : a.tmps.getD 23 undef = .string q := e23
          have g23 : a.tmps[23]?.getD undef = .string q := by rw [← Array.getD_eq_getD_getElem?]; exact e23
          refine op_val (.string q) ?_ hC (Below.refl _ _) (by intro d hd; cases hd; rfl)
          (clear hV hI hC; go_simp <;> (first | rfl | simp | (rw [IntKind.wrap_i64]; omega)))
        case o7 =>
          intro Q a w2 hC hV hI
          have e24 : a.eval (.tmp 24) = .bool b := hV 24 (by simp [Op.operands]) (by kernel_rfl)
          have f24 : a.tmps.getD 24 undef = .bool b := e24
          have g24 : a.tmps[24]?.getD undef = .bool b := by rw [← Array.getD_eq_getD_getElem?]; exact e24
          refine op_val (.bool b) ?_ hC (Below.refl _ _) (by intro d hd; cases hd; rfl)
          (clear hV hI hC; go_simp <;> (first | rfl | simp | (rw [IntKind.wrap_i64]; omega)))
      case hend =>
        intro f w7 hC hall
        simp only [List.forall_mem_cons] at hall
        obtain ⟨h16, h17, h18, h19, h20, h21, h22, h15, h23, h24, h6, h7, _⟩ := hall
        replace h16 : f 16 = .pointer (some ⟨w5.heap.size, 0, none⟩) := h16 16 rfl
        replace h17 : f 17 = .pointer (some ⟨gh, oi, none⟩) := h17 17 rfl
        replace h18 : f 18 = .pointer (some ⟨gh, oi, none⟩) := h18 18 rfl
        replace h19 : f 19 = .int .i64 x := h19 19 rfl
        replace h20 : f 20 = .pointer (some ⟨w5.heap.size, 1, none⟩) := h20 20 rfl
        replace h21 : f 21 = .int .i64 y := h21 21 rfl
        replace h22 : f 22 = .tuple #[.string q, .bool b] := h22 22 rfl
        replace h15 : f 15 = .tuple #[.string q, .bool b] := h15 15 rfl
        replace h23 : f 23 = .string q := h23 23 rfl
        replace h24 : f 24 = .bool b := h24 24 rfl
        replace h6 : f 6 = .string q := h6 6 rfl
        replace h7 : f 7 = .bool b := h7 7 rfl
        simp only [putAll, Act.put, List.setIfInBounds_toArray, List.set_cons_succ, List.set_cons_zero, h16, h17, h18, h19, h20, h21, h22, h15, h23, h24, h6, h7]
        clear h16 h17 h18 h19 h20 h21 h22 h15 h23 h24 h6 h7
        clear KC HPy
        replace O := Lib.hid (ownB_belowK O.out hC)
        replace F := Lib.hid ((hC.block G (by have := hsz6; omega)).trans F.out)
        replace B := Lib.hid (B.out.trans (hC.mono hsz6))
        have hsz7 := B.out.size
        clear hC
        cases b with
        | false =>
          have HF2 : Hid (E = .panicked (panC 3)) := Lib.hid (by rw [HE.out, HB2.out rfl]; rfl)
          clear HE HB2 HS2 HK2
          go_wp2_with fail
          refine (demand_no 3 _).mono ?_
          rintro e w8 ⟨rfl, rfl⟩
          exact ⟨rfl, by rw [HF2.out], B.out⟩
        | true =>
          have HOk2 : Hid (octsOk (L.take (i + 1)) = true) := Lib.hid (by rw [HK2.out, HOk.out]; rfl)
          have zl : T.data.toList.length = T.size := by simp
          clear HB2 HK2
          go_wp2_with fail
          refine (demand_ok 3 _).mono ?_
          rintro e w8 ⟨rfl, rfl⟩
          go_wp2_with (at_builtin; refine Lib.wpList_append_own_string _ rfl _ _ 82 9 rfl w.heap.size 5 i0 Tryz.underlying82 Tryz.underlying9 hi0 hz0 hz1 hz2 _ _ _ rfl O.out q rfl ?pp ?pq ?pr ?_)
          case pp => simp only [maxLen]; omega
          case pq => omega
          case pr => omega
          intro v9 w9 hown hgrow hnil
          have O9 : OwnB w9 w.heap.size v9 (T.data.toList ++ q.data.toList) := textK (by simp <;> omega) hown
          rw [show T.data.toList ++ q.data.toList = (T ++ q).data.toList from by simp] at O9
          have O10 := Lib.hid O9
          have F9 := Lib.hid ((hgrow.block G (Array.getElem?_eq_some_iff.1 F.out).1 hne).trans F.out)
          have B9 : Hid (Below w.heap.size w w9) := Lib.hid (B.out.grown hgrow (by omega) (fun b hb => (World.ownsRow.lt O.out b hb).1))
          have N9 : Hid (some G ≠ v9.ownBlock) := Lib.hid (own_ne_ty O9 F9.out (by decide))
          clear hown hgrow hnil O9 O F B hne
          go_wp2_with fail
          go_roundw
          case rel => exact ⟨i + 1, by go_num, by omega, HOk2.out, by rw [HS2.out]; exact O10.out, F9.out, N9.out, B9.out⟩
          case measure => simp [intOf]; omega
    · obtain rfl : i = 10 := by omega
      have hlt2 : ¬ ((10 : Nat) : Int) < 10 := by omega
      have HR9 := HF.out.2
      rw [HOk.out] at HR9
      have HF2 : Hid (E = .returned (.string r)) := Lib.hid (by rw [HE.out, ← HR9]; rfl)
      have hc := O.out.conv
      rw [HF.out.1, show (⟨r.data.toList.toArray⟩ : ByteArray) = r from by simp] at hc
      clear HR9 HE
      go_wp2_with fail
      go_ret
      exact ⟨by rw [HF2.out]; rfl, B.out⟩
end Go.Proofs.YtcnmbolmgifgfabGreatDoor

/- '==' of two [2]int. -/
namespace Go.Proofs.YtcnmbolmgifgfabGreatDoor
theorem run_equalIn_int2 {P : Program} (w : World) (d : Nat) (t e : TypeId) (ht : P.underlying t = some (.array 2 e)) (he : P.underlying e = some (.int .i64)) (hsz : ∀ w, (sizeOf e).run P w = .ok 1 w) (a b x y : Int) :
    (Op.equalIn (d + 2) t (.agg #[.int .i64 a, .int .i64 b]) (.agg #[.int .i64 x, .int .i64 y])).run P w = .ok (decide (a = x) && decide (b = y)) w := by
  rw [Op.equalIn]
  simp only [Sem.run_bind, run_underlying ht, Result.andThen_ok, hsz, Std.Legacy.Range.forIn_eq_forIn_range', Std.Legacy.Range.size, Nat.sub_zero, Nat.add_sub_cancel, Nat.div_one]
  have p0 : ∀ w u v, (part e #[u, v] 0).run P w = .ok u w := fun w u v => by simp [part, isAgg, run_underlying he]
  have p1 : ∀ w u v, (part e #[u, v] 1).run P w = .ok v w := fun w u v => by simp [part, isAgg, run_underlying he]
  have q : ∀ w a x, (Op.equalIn (d + 1) e (.int .i64 a) (.int .i64 x)).run P w = .ok (decide (a = x)) w := fun w a x => by
    rw [run_equalIn_int _ d e .i64 .i64 _ _ he]
    rfl
  rw [show List.range' 0 2 1 = [0, 1] from rfl]
  simp only [List.forIn_cons, List.forIn_nil, Sem.run_bind, Nat.zero_mul, Nat.one_mul, p0, q, Result.andThen_ok]
  generalize decide (a = x) = u
  cases u
  · simp
  · simp only [Bool.not_true, Bool.false_eq_true, if_false, Sem.run_pure, Sem.run_bind, Result.andThen_ok, p1, q]
    generalize decide (b = y) = v
    cases v <;> simp
theorem eq_zeros (a b : Int) (w : World) : (binOp .eql 122 (.agg #[.int .i64 a, .int .i64 b]) (.agg #[.int .i64 0, .int .i64 0])).run Tryz.prog w = .ok (.bool (decide (a = 0) && decide (b = 0))) w := by
  rw [run_eql_struct, run_equalIn_int2 w 9998 122 3 Tryz.underlying122 Tryz.underlying3 (fun w => by go_simp) a b 0 0]
  rfl
end Go.Proofs.YtcnmbolmgifgfabGreatDoor

/- Contract of impl.odcHeadOf: the numbers of a card's head, each at its place. -/
namespace Go.Proofs.YtcnmbolmgifgfabGreatDoor
open Go.ChangeShapes Go.WideShapes Go.ChangeAt Go.RowKit Go.Deep

/-- The cells of a head of which the first k numbers are read. -/
def hdC (s : ByteArray) (j : Nat) : Nat → Array Value
  | 0 => #[.int .i64 0, .int .i64 0, .int .i64 0, .int .i64 0, .int .i64 0, .int .i64 0, .string ⟨#[]⟩, .string ⟨#[]⟩, .int .i64 0, .int .i64 0, .int .i64 0, .int .i64 0]
  | k + 1 => (hdC s j k).setIfInBounds (offv k) (.int .i64 (fN s j k))
theorem hdC_size (s : ByteArray) (j k : Nat) : (hdC s j k).size = 12 := by
  induction k with
  | zero => rfl
  | succ k ih => simp [hdC, ih]
theorem hdC_zeros (s : ByteArray) (j : Nat) : (hdC s j 10)[8]? = some (.int .i64 (fN s j 0)) ∧ (hdC s j 10)[9]? = some (.int .i64 (fN s j 6)) := by
  constructor <;> simp [hdC, offv]
theorem hdC_ten (s : ByteArray) (j : Nat) : hdC s j 10 = #[.int .i64 (fN s j 1), .int .i64 (fN s j 2), .int .i64 (fN s j 3), .int .i64 (fN s j 4), .int .i64 (fN s j 5), .int .i64 (fN s j 7), .string ⟨#[]⟩, .string ⟨#[]⟩, .int .i64 (fN s j 0), .int .i64 (fN s j 6), .int .i64 (fN s j 8), .int .i64 (fN s j 9)] := by
  simp [hdC, offv]
theorem Tryz.sizeHd : (Tryz.prog.info? 124).map (·.size) = some 12 := by kernel_rfl
theorem offv_lt : ∀ k, k < 10 → offv k < 12 ∧ True := by decide
theorem heap_newK (w : World) (o : Obj) (g : Nat) (hg : g = w.heap.size) : (w.alloc o).heap[g]? = some o := by subst hg; exact heap_lastG w o
theorem heap_setK {w : World} {g i : Nat} {cs : Array Value} {t : TypeId} {v : Value} (h : w.heap[g]? = some (.cells cs t (0, 0))) : (w.setCell ⟨g, i, none⟩ v).heap[g]? = some (.cells (cs.setIfInBounds i v) t (0, 0)) := by
  have hlt : g < w.heap.size := (Array.getElem?_eq_some_iff.1 h).1
  have hg : w.heap[g] = .cells cs t (0, 0) := (Array.getElem?_eq_some_iff.1 h).2
  simp [World.setCell, hlt, Array.getElem_modify, hg]
theorem ext_pre (s : ByteArray) (a n b : Nat) (h : a + n ≤ b) (_hb : b ≤ s.size) : (s.extract a b).extract 0 n = s.extract a (a + n) := by
  apply ba_ext
  simp
  omega
theorem ext_suf (s : ByteArray) (a n b : Nat) (h : a + n ≤ b) (_hb : b ≤ s.size) : (s.extract a b).extract n (s.extract a b).size = s.extract (a + n) b := by
  apply ba_ext
  simp
  omega
def hdL : List (Int × Int) := (List.range 10).map (fun k => (0, ((wid k : Nat) : Int)))
theorem hdL_at : ∀ k, k < 10 → hdL[k]? = some (0, ((wid k : Nat) : Int)) := by decide
def hdE (s : ByteArray) (j : Nat) : Ending := if allO s j = true ∧ fN s j 0 = 0 ∧ fN s j 6 = 0 then .returned (.agg (hdC s j 10)) else .panicked (panC 3)
set_option maxHeartbeats 3200000 in
set_option maxRecDepth 8000 in
theorem headOf_any (s : ByteArray) (j : Nat) (w : World) (hs : s.size ≤ 1048576) (hj : j + 76 ≤ s.size) :
    Calls Tryz.prog 151 #[.string (s.extract (j + 6) (j + 76))] w fun e w' => e = hdE s j ∧ Below w.heap.size w w' := by
  have HBad : Hid (∀ k, k < 10 → fO s j k = false → hdE s j = .panicked (panC 3)) := Lib.hid (fun k hk h => by rw [hdE, if_neg (by rw [allO_bad hk h]; simp)])
  have HZ : Hid ((∀ k, k < 10 → fO s j k = true) → (¬ fN s j 0 = 0 ∨ ¬ fN s j 6 = 0) → hdE s j = .panicked (panC 3)) := Lib.hid (fun _ h => by rw [hdE, if_neg (by intro h9; omega)])
  have HG : Hid ((∀ k, k < 10 → fO s j k = true) → fN s j 0 = 0 → fN s j 6 = 0 → hdE s j = .returned (.agg (hdC s j 10))) := Lib.hid (fun h h0 h6 => by rw [hdE, if_pos ⟨allO_good h, h0, h6⟩])
  have HD0 : Hid (s.extract (j + 6) (j + 76) = s.extract (j + 6 + cum 0) (j + 76)) := Lib.hid rfl
  have HF := Lib.hid (fun (w : World) (G gh : Nat) (h : w.heap[G]? = some (.cells (fieldCells gh) 175 (0, 0))) k hk => field_at (L := hdL) h (by decide) (hdL_at k hk))
  generalize hdE s j = E at HBad HZ HG
  rw [HD0.out]
  clear HD0
  have HSz := Lib.hid (fun k => hdC_size s j k)
  go_enter Tryz.func151, Tryz.ntmps151
  go_wp2_with fail
  refine (fields_any _ _).mono ?_
  rintro e w1 ⟨G, rfl, hG1, hG2, hb⟩
  have hs0 : w.heap.size + 2 ≤ G := by simpa using hG1
  have W1 := (Below.refl w.heap.size w).alloc (Nat.le_refl _) (.cells #[.int .i64 0, .int .i64 0, .int .i64 0, .int .i64 0, .int .i64 0, .int .i64 0, .string ⟨#[]⟩, .string ⟨#[]⟩, .int .i64 0, .int .i64 0, .int .i64 0, .int .i64 0] 124)
  have W2 := W1.alloc (by simp) (.cells #[.int .i64 0, .int .i64 0, .int .i64 0, .int .i64 0, .int .i64 0, .int .i64 0, .string ⟨#[]⟩, .string ⟨#[]⟩, .int .i64 0, .int .i64 0, .int .i64 0, .int .i64 0] 124)
  have XH : Hid (w1.heap[w.heap.size + 1]? = some (.cells (hdC s j 0) 124 (0, 0))) := Lib.hid ((hb.block _ (by simp)).trans (heap_newK _ _ _ (by simp)))
  have XR : Hid (w1.heap[w.heap.size]? = some (.cells #[.int .i64 0, .int .i64 0, .int .i64 0, .int .i64 0, .int .i64 0, .int .i64 0, .string ⟨#[]⟩, .string ⟨#[]⟩, .int .i64 0, .int .i64 0, .int .i64 0, .int .i64 0] 124 (0, 0))) := Lib.hid ((hb.block _ (by simp; omega)).trans (((Below.refl _ _).alloc (Nat.le_refl _) _).block w.heap.size (by simp) |>.trans (heap_newK _ _ _ rfl)))
  have B := Lib.hid (W2.trans (hb.mono (by simp; omega)))
  have F := Lib.hid hG2
  clear hb hG1 hG2 W1 W2
  go_wp2_with fail
  go_loopw [0, 5, 6, 7, 10] (fun dg _ _ _ u wr => ∃ k : Nat, u = .int .i64 k ∧ k ≤ 10 ∧ dg = .string (s.extract (j + 6 + cum k) (j + 76)) ∧ (∀ m, m < k → fO s j m = true) ∧ wr.heap[w.heap.size + 1]? = some (.cells (hdC s j k) 124 (0, 0)) ∧ wr.heap[w.heap.size]? = some (.cells #[.int .i64 0, .int .i64 0, .int .i64 0, .int .i64 0, .int .i64 0, .int .i64 0, .string ⟨#[]⟩, .string ⟨#[]⟩, .int .i64 0, .int .i64 0, .int .i64 0, .int .i64 0] 124 (0, 0)) ∧ wr.heap[G]? = some (.cells (fieldCells (w.heap.size + 1)) 175 (0, 0)) ∧ Below w.heap.size w wr) (fun _ _ _ _ u _ => 10 - (intOf u).toNat)
  case atStart => exact ⟨0, rfl, by omega, rfl, fun m hm => by omega, XH.out, XR.out, F.out, B.out⟩
  case round =>
    obtain ⟨k, rfl, hk, rfl, hok, hxh, hxr, hf, hb⟩ := hrel
    clear XH XR F B
    have OK := Lib.hid hok
    have XH := Lib.hid hxh
    have XR := Lib.hid hxr
    have F := Lib.hid hf
    have B := Lib.hid hb
    have hszB := B.out.size
    have zG := (Array.getElem?_eq_some_iff.1 hf).1
    have zH := (Array.getElem?_eq_some_iff.1 hxh).1
    clear hok hxh hxr hf hb
    by_cases hlt : k < 10
    · have hlt2 : (k : Int) < 10 := by omega
      obtain ⟨hc1, hc2, hc3, _⟩ := cum_wid k hlt
      obtain ⟨c0, c1⟩ := HF.out wr G (w.heap.size + 1) F.out k hlt
      obtain ⟨ho12, _⟩ := offv_lt k hlt
      have HBk := Lib.hid (HBad.out k hlt)
      have HOn : Hid (fO s j k = true → ∀ m, m < k + 1 → fO s j m = true) := Lib.hid (fun h m hm => by
        by_cases e : m = k
        · subst e; exact h
        · exact OK.out m (by omega))
      have HGo := Lib.hid (fun w => getOct_impl (fB s j k) w (by unfold fB; rw [ByteArray.size_extract]; omega))
      rw [show (getOctv (fB s j k).data.toList).1 = fN s j k from rfl, show (getOctv (fB s j k).data.toList).2 = fO s j k from rfl] at HGo
      have hdz : (s.extract (j + 6 + cum k) (j + 76)).size = 70 - cum k := by rw [ByteArray.size_extract]; omega
      have hS1 : ∀ w, (Instr.slice 9 (.string (s.extract (j + 6 + cum k) (j + 76))) none (some (.int .i64 ((wid k : Nat) : Int))) none).run Tryz.prog w = .ok (.string (fB s j k)) w := fun w => by
        have h := run_slice_string_h (P := Tryz.prog) (w := w) (t := 9) (s := s.extract (j + 6 + cum k) (j + 76)) Tryz.underlying9 .i64 ((wid k : Nat) : Int) (by omega) (by omega)
        rw [Int.toNat_natCast, ext_pre s _ _ _ (by omega) (by omega)] at h
        exact h
      have hS2 : ∀ w, (Instr.slice 9 (.string (s.extract (j + 6 + cum k) (j + 76))) (some (.int .i64 ((wid k : Nat) : Int))) none none).run Tryz.prog w = .ok (.string (s.extract (j + 6 + cum (k + 1)) (j + 76))) w := fun w => by
        have h := run_slice_string_l (P := Tryz.prog) (w := w) (t := 9) (s := s.extract (j + 6 + cum k) (j + 76)) Tryz.underlying9 .i64 ((wid k : Nat) : Int) (by omega) (by omega)
        rw [Int.toNat_natCast, ext_suf s _ _ _ (by omega) (by omega), show j + 6 + cum k + wid k = j + 6 + cum (k + 1) from by omega] at h
        exact h
      have HHs : Hid (hdC s j (k + 1) = (hdC s j k).setIfInBounds (offv k) (.int .i64 (fN s j k))) := Lib.hid rfl
      have hhz := HSz.out k
      clear hdz hc1 hc2 hc3
      generalize fB s j k = fb at hS1 HGo
      generalize fO s j k = okk at HBk HOn HGo
      generalize fN s j k = x at HHs HGo
      generalize s.extract (j + 6 + cum k) (j + 76) = dg at hS1 hS2
      generalize hdg2 : s.extract (j + 6 + cum (k + 1)) (j + 76) = dg2 at hS2
      have HDg := Lib.hid hdg2
      clear hdg2
      generalize offv k = oi at c0 ho12 HHs
      generalize wid k = wk at c1 hS1 hS2
      obtain ⟨wo, hwo⟩ : ∃ wo, wo = wr := ⟨_, rfl⟩
      subst hwo
      go_upto_region 5 with fail
      generalize hw6 : World.alloc wo _ = w6
      have NB : Below wo.heap.size wo w6 := by rw [← hw6]; exact (Below.refl _ _).alloc (Nat.le_refl _) _
      have XB : w6.heap[wo.heap.size]? = some (.cells #[.pointer (some ⟨w.heap.size + 1, oi, none⟩), .int .i64 wk] 175 (0, 0)) := by rw [← hw6]; exact heap_lastG _ _
      clear hw6 c0 c1
      have zbx := (Array.getElem?_eq_some_iff.1 XB).1
      replace XH := Lib.hid ((NB.block _ zH).trans XH.out)
      replace XR := Lib.hid ((NB.block _ (by omega)).trans XR.out)
      replace F := Lib.hid ((NB.block G zG).trans F.out)
      replace B := Lib.hid (B.out.trans (NB.mono hszB))
      have b0 : w6.cell? ⟨wo.heap.size, 0, none⟩ = some (.pointer (some ⟨w.heap.size + 1, oi, none⟩)) := by simp [World.cell?, XB]
      have b1 : w6.cell? ⟨wo.heap.size, 1, none⟩ = some (.int .i64 wk) := by simp [World.cell?, XB]
      have XBh := Lib.hid XB
      clear NB XB
      go_wp2_with fail
      refine (HGo.out _).mono ?_
      rintro e w7 ⟨rfl, rfl⟩
      cases okk with
      | false =>
        have HF2 : Hid (E = .panicked (panC 3)) := Lib.hid (HBk.out rfl)
        clear HBk HOn HGo
        go_wp2_with fail
        refine (demand_no 3 _).mono ?_
        rintro e w8 ⟨rfl, rfl⟩
        exact ⟨rfl, by rw [HF2.out], B.out⟩
      | true =>
        have HOn2 := Lib.hid (HOn.out rfl)
        clear HBk HOn HGo
        go_wp2_with fail
        refine (demand_ok 3 _).mono ?_
        rintro e w8 ⟨rfl, rfl⟩
        have hcell : w8.cell? ⟨w.heap.size + 1, oi, none⟩ = some ((hdC s j k).getD oi undef) := by simp [World.cell?, XH.out, hhz, ho12]
        have hfz : w8.frozen? ⟨w.heap.size + 1, oi, none⟩ = false := by simp [World.frozen?, XH.out]
        go_upto_region 8 with fail
        generalize hw9 : World.setCell w8 _ _ = w9
        have hne : wo.heap.size ≠ w.heap.size + 1 := by omega
        have XH9 : Hid (w9.heap[w.heap.size + 1]? = some (.cells (hdC s j (k + 1)) 124 (0, 0))) := Lib.hid (by rw [← hw9, HHs.out]; exact heap_setK XH.out)
        have XR9 : Hid (w9.heap[w.heap.size]? = some (.cells #[.int .i64 0, .int .i64 0, .int .i64 0, .int .i64 0, .int .i64 0, .int .i64 0, .string ⟨#[]⟩, .string ⟨#[]⟩, .int .i64 0, .int .i64 0, .int .i64 0, .int .i64 0] 124 (0, 0))) := Lib.hid (by rw [← hw9, Below.heap_setCell _ _ _ _ (by simp)]; exact XR.out)
        have F9 : Hid (w9.heap[G]? = some (.cells (fieldCells (w.heap.size + 1)) 175 (0, 0))) := Lib.hid (by rw [← hw9, Below.heap_setCell _ _ _ _ (by simp; omega)]; exact F.out)
        have B9 : Hid (Below w.heap.size w w9) := Lib.hid (by rw [← hw9]; exact B.out.setCell (by simp) _)
        have b9 : w9.cell? ⟨wo.heap.size, 1, none⟩ = some (.int .i64 wk) := by
          have h10 := Below.heap_setCell w8 ⟨w.heap.size + 1, oi, none⟩ (.int .i64 x) wo.heap.size (by simp; omega)
          rw [hw9, XBh.out] at h10
          simp [World.cell?, h10]
        clear hw9 hcell hfz b0 b1 XH XR F B XBh hne
        go_wp2_with fail
        go_roundw
        case rel => exact ⟨k + 1, by go_num, by omega, by rw [HDg.out], HOn2.out, XH9.out, XR9.out, F9.out, B9.out⟩
        case measure => simp [intOf]; omega
    · obtain rfl : k = 10 := by omega
      have hlt2 : ¬ ((10 : Nat) : Int) < 10 := by omega
      have hten := hdC_ten s j
      have HEq := fun w => eq_zeros (fN s j 0) (fN s j 6) w
      have HZ2 := Lib.hid (HZ.out OK.out)
      have HG2 := Lib.hid (HG.out OK.out)
      have X0 := XH.out
      rw [hten] at HG2 X0
      clear hten HZ HG HBad HF HSz XH OK
      generalize fN s j 0 = x0 at HZ2 HG2 HEq X0
      generalize fN s j 6 = x6 at HZ2 HG2 HEq X0
      generalize fN s j 1 = x1 at HG2 X0
      generalize fN s j 2 = x2 at HG2 X0
      generalize fN s j 3 = x3 at HG2 X0
      generalize fN s j 4 = x4 at HG2 X0
      generalize fN s j 5 = x5 at HG2 X0
      generalize fN s j 7 = x7 at HG2 X0
      generalize fN s j 8 = x8 at HG2 X0
      generalize fN s j 9 = x9 at HG2 X0
      have h8 : wr.cell? ⟨w.heap.size + 1, 8, none⟩ = some (.int .i64 x0) := by simp [World.cell?, X0]
      have h9 : wr.cell? ⟨w.heap.size + 1, 9, none⟩ = some (.int .i64 x6) := by simp [World.cell?, X0]
      have XH := Lib.hid X0
      clear X0
      go_wp2_with fail
      by_cases hz : x0 = 0 ∧ x6 = 0
      · obtain ⟨rfl, rfl⟩ := hz
        have HE9 := Lib.hid (HG2.out rfl rfl)
        rw [show (decide ((0 : Int) = 0) && decide ((0 : Int) = 0)) = true from rfl]
        clear HEq h8 h9 HZ2 HG2
        refine (demand_ok 3 _).mono ?_
        rintro e w8 ⟨rfl, rfl⟩
        have s0 : w8.cell? ⟨w.heap.size + 1, 0, none⟩ = some (.int .i64 x1) := by simp [World.cell?, XH.out]
        have s1 : w8.cell? ⟨w.heap.size + 1, 1, none⟩ = some (.int .i64 x2) := by simp [World.cell?, XH.out]
        have s2 : w8.cell? ⟨w.heap.size + 1, 2, none⟩ = some (.int .i64 x3) := by simp [World.cell?, XH.out]
        have s3 : w8.cell? ⟨w.heap.size + 1, 3, none⟩ = some (.int .i64 x4) := by simp [World.cell?, XH.out]
        have s4 : w8.cell? ⟨w.heap.size + 1, 4, none⟩ = some (.int .i64 x5) := by simp [World.cell?, XH.out]
        have s5 : w8.cell? ⟨w.heap.size + 1, 5, none⟩ = some (.int .i64 x7) := by simp [World.cell?, XH.out]
        have s6 : w8.cell? ⟨w.heap.size + 1, 6, none⟩ = some (.string ⟨#[]⟩) := by simp [World.cell?, XH.out]
        have s7 : w8.cell? ⟨w.heap.size + 1, 7, none⟩ = some (.string ⟨#[]⟩) := by simp [World.cell?, XH.out]
        have s8 : w8.cell? ⟨w.heap.size + 1, 8, none⟩ = some (.int .i64 0) := by simp [World.cell?, XH.out]
        have s9 : w8.cell? ⟨w.heap.size + 1, 9, none⟩ = some (.int .i64 0) := by simp [World.cell?, XH.out]
        have s10 : w8.cell? ⟨w.heap.size + 1, 10, none⟩ = some (.int .i64 x8) := by simp [World.cell?, XH.out]
        have s11 : w8.cell? ⟨w.heap.size + 1, 11, none⟩ = some (.int .i64 x9) := by simp [World.cell?, XH.out]
        have r0 : w8.cell? ⟨w.heap.size, 0, none⟩ = some (.int .i64 0) := by simp [World.cell?, XR.out]
        have r1 : w8.cell? ⟨w.heap.size, 1, none⟩ = some (.int .i64 0) := by simp [World.cell?, XR.out]
        have r2 : w8.cell? ⟨w.heap.size, 2, none⟩ = some (.int .i64 0) := by simp [World.cell?, XR.out]
        have r3 : w8.cell? ⟨w.heap.size, 3, none⟩ = some (.int .i64 0) := by simp [World.cell?, XR.out]
        have r4 : w8.cell? ⟨w.heap.size, 4, none⟩ = some (.int .i64 0) := by simp [World.cell?, XR.out]
        have r5 : w8.cell? ⟨w.heap.size, 5, none⟩ = some (.int .i64 0) := by simp [World.cell?, XR.out]
        have r6 : w8.cell? ⟨w.heap.size, 6, none⟩ = some (.string ⟨#[]⟩) := by simp [World.cell?, XR.out]
        have r7 : w8.cell? ⟨w.heap.size, 7, none⟩ = some (.string ⟨#[]⟩) := by simp [World.cell?, XR.out]
        have r8 : w8.cell? ⟨w.heap.size, 8, none⟩ = some (.int .i64 0) := by simp [World.cell?, XR.out]
        have r9 : w8.cell? ⟨w.heap.size, 9, none⟩ = some (.int .i64 0) := by simp [World.cell?, XR.out]
        have r10 : w8.cell? ⟨w.heap.size, 10, none⟩ = some (.int .i64 0) := by simp [World.cell?, XR.out]
        have r11 : w8.cell? ⟨w.heap.size, 11, none⟩ = some (.int .i64 0) := by simp [World.cell?, XR.out]
        have z0 : w8.frozen? ⟨w.heap.size, 0, none⟩ = false := by simp [World.frozen?, XR.out]
        have z1 : w8.frozen? ⟨w.heap.size, 1, none⟩ = false := by simp [World.frozen?, XR.out]
        have z2 : w8.frozen? ⟨w.heap.size, 2, none⟩ = false := by simp [World.frozen?, XR.out]
        have z3 : w8.frozen? ⟨w.heap.size, 3, none⟩ = false := by simp [World.frozen?, XR.out]
        have z4 : w8.frozen? ⟨w.heap.size, 4, none⟩ = false := by simp [World.frozen?, XR.out]
        have z5 : w8.frozen? ⟨w.heap.size, 5, none⟩ = false := by simp [World.frozen?, XR.out]
        have z6 : w8.frozen? ⟨w.heap.size, 6, none⟩ = false := by simp [World.frozen?, XR.out]
        have z7 : w8.frozen? ⟨w.heap.size, 7, none⟩ = false := by simp [World.frozen?, XR.out]
        have z8 : w8.frozen? ⟨w.heap.size, 8, none⟩ = false := by simp [World.frozen?, XR.out]
        have z9 : w8.frozen? ⟨w.heap.size, 9, none⟩ = false := by simp [World.frozen?, XR.out]
        have z10 : w8.frozen? ⟨w.heap.size, 10, none⟩ = false := by simp [World.frozen?, XR.out]
        have z11 : w8.frozen? ⟨w.heap.size, 11, none⟩ = false := by simp [World.frozen?, XR.out]
        go_wp2_with fail
        have hR := heap_setK (i := 11) (v := .int .i64 x9) (heap_setK (i := 10) (v := .int .i64 x8) (heap_setK (i := 9) (v := .int .i64 0) (heap_setK (i := 8) (v := .int .i64 0) (heap_setK (i := 7) (v := .string ⟨#[]⟩) (heap_setK (i := 6) (v := .string ⟨#[]⟩) (heap_setK (i := 5) (v := .int .i64 x7) (heap_setK (i := 4) (v := .int .i64 x5) (heap_setK (i := 3) (v := .int .i64 x4) (heap_setK (i := 2) (v := .int .i64 x3) (heap_setK (i := 1) (v := .int .i64 x2) (heap_setK (i := 0) (v := .int .i64 x1) (XR.out))))))))))))
        have hB := ((((((((((((B.out).setCell (p := ⟨w.heap.size, 0, none⟩) (Nat.le_refl _) (.int .i64 x1)).setCell (p := ⟨w.heap.size, 1, none⟩) (Nat.le_refl _) (.int .i64 x2)).setCell (p := ⟨w.heap.size, 2, none⟩) (Nat.le_refl _) (.int .i64 x3)).setCell (p := ⟨w.heap.size, 3, none⟩) (Nat.le_refl _) (.int .i64 x4)).setCell (p := ⟨w.heap.size, 4, none⟩) (Nat.le_refl _) (.int .i64 x5)).setCell (p := ⟨w.heap.size, 5, none⟩) (Nat.le_refl _) (.int .i64 x7)).setCell (p := ⟨w.heap.size, 6, none⟩) (Nat.le_refl _) (.string ⟨#[]⟩)).setCell (p := ⟨w.heap.size, 7, none⟩) (Nat.le_refl _) (.string ⟨#[]⟩)).setCell (p := ⟨w.heap.size, 8, none⟩) (Nat.le_refl _) (.int .i64 0)).setCell (p := ⟨w.heap.size, 9, none⟩) (Nat.le_refl _) (.int .i64 0)).setCell (p := ⟨w.heap.size, 10, none⟩) (Nat.le_refl _) (.int .i64 x8)).setCell (p := ⟨w.heap.size, 11, none⟩) (Nat.le_refl _) (.int .i64 x9)
        clear s0 r0 z0 s1 r1 z1 s2 r2 z2 s3 r3 z3 s4 r4 z4 s5 r5 z5 s6 r6 z6 s7 r7 z7 s8 r8 z8 s9 r9 z9 s10 r10 z10 s11 r11 z11
        generalize World.setCell _ ⟨w.heap.size, 11, none⟩ _ = w9 at hR hB ⊢
        simp only [List.setIfInBounds_toArray, List.set_cons_succ, List.set_cons_zero] at hR
        refine bodyPost_ret (results_cell_row rfl _ _ w.heap.size _ #[.int .i64 x1, .int .i64 x2, .int .i64 x3, .int .i64 x4, .int .i64 x5, .int .i64 x7, .string ⟨#[]⟩, .string ⟨#[]⟩, .int .i64 0, .int .i64 0, .int .i64 x8, .int .i64 x9] (0, 0) _ rfl hR Tryz.underlying124 rfl (by rw [Tryz.sizeHd]; rfl)) rfl ?_
        exact ⟨HE9.out.symm, hB⟩
      · have HE9 : Hid (E = .panicked (panC 3)) := Lib.hid (HZ2.out (by omega))
        rw [show (decide (x0 = 0) && decide (x6 = 0)) = false from by simpa using hz]
        clear HEq h8 h9 HZ2 HG2
        refine (demand_no 3 _).mono ?_
        rintro e w8 ⟨rfl, rfl⟩
        exact ⟨rfl, by rw [HE9.out], B.out⟩
end Go.Proofs.YtcnmbolmgifgfabGreatDoor

/- Contract of strings.CutPrefix where the text is no shorter than what is cut. -/
namespace Go.Proofs.YtcnmbolmgifgfabGreatDoor
open Go.ChangeShapes Go.WideShapes Go.ChangeAt Go.RowKit

theorem hasPre_any (s p : ByteArray) (w : World) (h : p.size ≤ s.size) :
    Calls Tryz.prog 77 #[.string s, .string p] w fun e w' => e = .returned (.bool ((s.extract 0 p.size).toList == p.toList)) ∧ w' = w := by
  have hS : ∀ w, (Instr.slice 9 (.string s) none (some (.int .i64 ((p.size : Nat) : Int))) none).run Tryz.prog w = .ok (.string (s.extract 0 p.size)) w := fun w => by
    have h1 := run_slice_string_h (P := Tryz.prog) (w := w) (t := 9) (s := s) Tryz.underlying9 .i64 ((p.size : Nat) : Int) (by omega) (by omega)
    rw [Int.toNat_natCast] at h1
    exact h1
  have h2 : ((p.size : Nat) : Int) ≤ (s.size : Int) := by omega
  go_enter Tryz.func77, Tryz.ntmps77
  go_wp2_with fail
  go_ret
  simp
theorem cutPre2_any (s p : ByteArray) (w : World) (h : p.size ≤ s.size) :
    Calls Tryz.prog 179 #[.string s, .string p] w fun e w' => e = .returned (.tuple #[.string (if (s.extract 0 p.size).toList == p.toList then s.extract p.size s.size else s), .bool ((s.extract 0 p.size).toList == p.toList)]) ∧ w' = w := by
  have hS : ∀ w, (Instr.slice 9 (.string s) (some (.int .i64 ((p.size : Nat) : Int))) none none).run Tryz.prog w = .ok (.string (s.extract p.size s.size)) w := fun w => by
    have h1 := run_slice_string_l (P := Tryz.prog) (w := w) (t := 9) (s := s) Tryz.underlying9 .i64 ((p.size : Nat) : Int) (by omega) (by omega)
    rw [Int.toNat_natCast] at h1
    exact h1
  have H := Lib.hid (fun w => hasPre_any s p w h)
  generalize ((s.extract 0 p.size).toList == p.toList) = b at H
  generalize s.extract p.size s.size = r at hS
  cases b with
  | true =>
    go_enter Tryz.func179, Tryz.ntmps179
    go_wp2_with fail
    refine (H.out _).mono ?_
    rintro e w1 ⟨rfl, rfl⟩
    go_wp2_with fail
    go_ret2
    simp
  | false =>
    go_enter Tryz.func179, Tryz.ntmps179
    go_wp2_with fail
    refine (H.out _).mono ?_
    rintro e w1 ⟨rfl, rfl⟩
    go_wp2_with fail
    go_ret2
    simp
theorem cutPre_any (s p : ByteArray) (w : World) (h : p.size ≤ s.size) :
    Calls Tryz.prog 144 #[.string s, .string p] w fun e w' => e = .returned (.tuple #[.string (if (s.extract 0 p.size).toList == p.toList then s.extract p.size s.size else s), .bool ((s.extract 0 p.size).toList == p.toList)]) ∧ w' = w := by
  have H := Lib.hid (fun w => cutPre2_any s p w h)
  generalize (if (s.extract 0 p.size).toList == p.toList then s.extract p.size s.size else s) = r at H ⊢
  generalize ((s.extract 0 p.size).toList == p.toList) = b at H ⊢
  go_enter Tryz.func144, Tryz.ntmps144
  go_wp2_with fail
  refine (H.out _).mono ?_
  rintro e w1 ⟨rfl, rfl⟩
  go_wp2_with fail
  go_ret2
  simp
end Go.Proofs.YtcnmbolmgifgfabGreatDoor

/- Contract of impl.readCard: a card read at a place, or the panic that tells what is wrong. -/
namespace Go.Proofs.YtcnmbolmgifgfabGreatDoor
open Go.ChangeShapes Go.WideShapes Go.ChangeAt Go.RowKit Go.Deep

def rdE (s : ByteArray) (i : Int) : Ending := if cdCode s i = 0 then .returned (.tuple #[.agg (cdCard s i).cells.toArray, .int .i64 (cdNext s i)]) else .panicked (panC (cdCode s i))
theorem rdE_bad {s : ByteArray} {i c : Int} (h : badCd s i c) (hc : ¬ c = 0) : rdE s i = .panicked (panC c) := by rw [rdE, if_neg (by rw [h.1]; exact hc), h.1]
theorem readCard_short (s : ByteArray) (i : Int) (w : World) (hs : s.size ≤ 1048576) (hi : i < 0 ∨ (s.size : Int) < i + 76) (hb : i ≤ 9223372036854775807) :
    Calls Tryz.prog 112 #[.string s, .int .i64 i] w fun e w' => e = rdE s i ∧ Below w.heap.size w w' := by
  have HE := Lib.hid (rdE_bad (cd_cut hi) (by decide))
  generalize rdE s i = E at HE
  by_cases h0 : 0 ≤ i
  · have h1 : ¬ (76 : Int) ≤ (s.size : Int) - i := by omega
    clear hi
    go_enter Tryz.func112, Tryz.ntmps112
    go_wp2_with fail
    refine (demand_no 1 _).mono ?_
    rintro e w8 ⟨rfl, rfl⟩
    exact ⟨rfl, by rw [HE.out], (Below.refl _ _).alloc (Nat.le_refl _) _⟩
  · clear hi
    go_enter Tryz.func112, Tryz.ntmps112
    go_wp2_with fail
    refine (demand_no 1 _).mono ?_
    rintro e w8 ⟨rfl, rfl⟩
    exact ⟨rfl, by rw [HE.out], (Below.refl _ _).alloc (Nat.le_refl _) _⟩
theorem results_cell2 {P : Program} {fn : Func} {p u1 : Tmp} {ty : TypeId} (h : fn.results = #[.cell p ty, .tmp u1]) (tmps : Array Value) (w : World) (g : Nat) (t : TypeId) (cs : Array Value) (fr : Nat × Nat) (d : TypeDesc)
    (hp : tmps.getD p undef = .pointer (some ⟨g, 0, none⟩)) (hg : w.heap[g]? = some (.cells cs t fr))
    (hu : P.underlying ty = some d) (hd : (match d with | .struct _ | .array _ _ => true | _ => false) = true) (hi : (P.info? ty).map (·.size) = some cs.size) :
    (results fn tmps).run P w = .ok (.tuple #[.agg cs, tmps.getD u1 undef]) w := by
  have hp' : tmps[p]?.getD undef = .pointer (some ⟨g, 0, none⟩) := by simpa using hp
  simp [results, h, hp', asAddr, run_loadVar_row w g t ty cs fr d hg hu hd hi]
theorem res_OC2 {fn : Func} {p u1 : Tmp} (h : fn.results = #[.cell p 48, .tmp u1]) (tmps : Array Value) {w : World} {g : Nat} {e : Card}
    (hp : tmps.getD p undef = .pointer (some ⟨g, 0, none⟩)) (hg : CardO w g e) : (results fn tmps).run Tryz.prog w = .ok (.tuple #[.agg e.cells.toArray, tmps.getD u1 undef]) w :=
  results_cell2 h _ _ g _ e.cells.toArray (0, 0) _ hp hg Tryz.underlying48 rfl (by rw [Tryz.sizeOC]; rfl)
theorem rd_magic {s : ByteArray} {j : Nat} (h : j + 76 ≤ s.size) (hm : ¬ s.extract j (j + 6) = magicB) : rdE s j = .panicked (panC 4) := rdE_bad (cd_magic h hm) (by decide)
theorem allO_all {s : ByteArray} {j : Nat} (h : allO s j = true) : ∀ k, k < 10 → fO s j k = true := fun k hk => List.all_eq_true.1 h k (List.mem_range.2 hk)
theorem rd_head {s : ByteArray} {j : Nat} (h : j + 76 ≤ s.size) (hm : s.extract j (j + 6) = magicB) (hh : ¬ (allO s j = true ∧ fN s j 0 = 0 ∧ fN s j 6 = 0)) : rdE s j = .panicked (panC 3) := by
  apply rdE_bad _ (by decide)
  refine badCd_of ?_ (by decide)
  rw [cdCode, if_neg (by omega), Int.toNat_natCast, if_neg (by simp [hm])]
  by_cases ha : allO s j = false
  · rw [if_pos ha]
  · rw [if_neg ha, if_pos]
    have ha : allO s j = true := by simpa using ha
    by_cases h0 : fN s j 0 = 0
    · exact .inr (fun h6 => hh ⟨ha, h0, h6⟩)
    · exact .inl h0
theorem rd_short {s : ByteArray} {j : Nat} (h : j + 76 ≤ s.size) (hm : s.extract j (j + 6) = magicB) (hh : allO s j = true ∧ fN s j 0 = 0 ∧ fN s j 6 = 0) (hs : (s.size : Int) < j + 76 + fN s j 8 + fN s j 9) : rdE s j = .panicked (panC 1) :=
  rdE_bad (cd_short h hm (allO_all hh.1) hh.2 hs) (by decide)
theorem rd_name {s : ByteArray} {j : Nat} (h : j + 76 ≤ s.size) (hm : s.extract j (j + 6) = magicB) (hh : allO s j = true ∧ fN s j 0 = 0 ∧ fN s j 6 = 0) (hs : ¬ (s.size : Int) < j + 76 + fN s j 8 + fN s j 9) (hn : ¬ ((cutv (nameB s j)).size : Int) + 1 = fN s j 8) : rdE s j = .panicked (panC 4) :=
  rdE_bad (cd_name h hm (allO_all hh.1) hh.2 hs (by omega)) (by decide)
theorem rd_good {s : ByteArray} {j : Nat} (h : j + 76 ≤ s.size) (hm : s.extract j (j + 6) = magicB) (hh : allO s j = true ∧ fN s j 0 = 0 ∧ fN s j 6 = 0) (hs : ¬ (s.size : Int) < j + 76 + fN s j 8 + fN s j 9) (hn : ((cutv (nameB s j)).size : Int) + 1 = fN s j 8) : rdE s j = .returned (.tuple #[.agg (Card.cells ⟨fN s j 1, fN s j 2, fN s j 3, fN s j 4, fN s j 5, fN s j 7, cutv (nameB s j), s.extract (j + 76 + (fN s j 8).toNat) (j + 76 + (fN s j 8).toNat + (fN s j 9).toNat)⟩).toArray, .int .i64 (j + 76 + fN s j 8 + fN s j 9)]) := by
  obtain ⟨g0, g1, g2⟩ := cd_good h hm (allO_all hh.1) hh.2 hs (by omega)
  rw [rdE, if_pos g0, g1, g2]
set_option maxHeartbeats 3200000 in
set_option maxRecDepth 8000 in
theorem readCard_long (s : ByteArray) (j : Nat) (w : World) (hs : s.size ≤ 1048576) (hj : j + 76 ≤ s.size) :
    Calls Tryz.prog 112 #[.string s, .int .i64 (j : Int)] w fun e w' => e = rdE s j ∧ Below w.heap.size w w' := by
  have HM := Lib.hid (fun h => rd_magic hj h)
  have HH := Lib.hid (fun hm h => rd_head hj hm h)
  have HSh := Lib.hid (fun hm hh h => rd_short hj hm hh h)
  have HN := Lib.hid (fun hm hh hs h => rd_name hj hm hh hs h)
  have HG := Lib.hid (fun hm hh hs h => rd_good hj hm hh hs h)
  generalize rdE s j = E at HM HH HSh HN HG
  have HS76 := Lib.hid (fun w => sl_at s (j : Int) ((j : Int) + 76) j (j + 76) rfl (by omega) (by omega) (by omega) w)
  have h1 : (76 : Int) ≤ (s.size : Int) - (j : Int) := by omega
  have hz76 : (s.extract j (j + 76)).size = 76 := by rw [ByteArray.size_extract]; omega
  have HP := Lib.hid (fun w => cutPre_any (s.extract j (j + 76)) magicB w (by rw [hz76]; decide))
  have e6 : (s.extract j (j + 76)).extract 0 magicB.size = s.extract j (j + 6) := ext_pre s j 6 (j + 76) (by omega) (by omega)
  have e7 : (s.extract j (j + 76)).extract magicB.size (s.extract j (j + 76)).size = s.extract (j + 6) (j + 76) := ext_suf s j 6 (j + 76) (by omega) (by omega)
  rw [e6, e7] at HP
  clear e6 e7 hz76
  have HHd := Lib.hid (fun w => headOf_any s j w hs hj)
  have R := Lib.hid (CardO.new w zeroC)
  have B : Hid (Below w.heap.size w (w.alloc (.cells zeroC.cells.toArray 48))) := Lib.hid ((Below.refl _ _).alloc (Nat.le_refl _) _)
  by_cases hm : s.extract j (j + 6) = magicB
  · rw [hm, show (magicB.toList == magicB.toList) = true from by simp, if_pos rfl] at HP
    have HH1 := Lib.hid (HH.out hm)
    have HSh1 := Lib.hid (HSh.out hm)
    have HN1 := Lib.hid (HN.out hm)
    have HG1 := Lib.hid (HG.out hm)
    clear HM HH HSh HN HG hm
    by_cases hh : allO s j = true ∧ fN s j 0 = 0 ∧ fN s j 6 = 0
    · have hbd8 := fN_bd s j 8
      have hbd9 := fN_bd s j 9
      have HSh2 := Lib.hid (HSh1.out hh)
      have HN2 := Lib.hid (HN1.out hh)
      have HG2 := Lib.hid (HG1.out hh)
      have HD : Hid (∀ w, Calls Tryz.prog 151 #[.string (s.extract (j + 6) (j + 76))] w fun e w' => e = .returned (.agg (hdC s j 10)) ∧ Below w.heap.size w w') := Lib.hid (fun w => by
        have h9 := HHd.out w
        rw [hdE, if_pos hh] at h9
        exact h9)
      rw [hdC_ten] at HD
      have HSn := Lib.hid (fun (h : ¬ (s.size : Int) < j + 76 + fN s j 8 + fN s j 9) w => sl_at s ((j : Int) + 76) ((j : Int) + 76 + fN s j 8) (j + 76) (j + 76 + (fN s j 8).toNat) (by omega) (by omega) (by omega) (by omega) w)
      have HSd := Lib.hid (fun (h : ¬ (s.size : Int) < j + 76 + fN s j 8 + fN s j 9) w => sl_at s ((j : Int) + 76 + fN s j 8) ((j : Int) + 76 + fN s j 8 + fN s j 9) (j + 76 + (fN s j 8).toNat) (j + 76 + (fN s j 8).toNat + (fN s j 9).toNat) (by omega) (by omega) (by omega) (by omega) w)
      rw [show s.extract (j + 76) (j + 76 + (fN s j 8).toNat) = nameB s j from rfl] at HSn
      have hnz : (nameB s j).size ≤ s.size := by unfold nameB; rw [ByteArray.size_extract]; omega
      have hdz : (s.extract (j + 76 + (fN s j 8).toNat) (j + 76 + (fN s j 8).toNat + (fN s j 9).toNat)).size ≤ s.size := by rw [ByteArray.size_extract]; omega
      generalize s.extract (j + 76 + (fN s j 8).toNat) (j + 76 + (fN s j 8).toNat + (fN s j 9).toNat) = dat at HSd HG2 hdz
      have HCl := Lib.hid (fun w => clone_any dat w (by omega))
      have HCu := Lib.hid (fun w => cut_impl (nameB s j) w (by omega))
      have hcz := cutv_le (nameB s j)
      generalize cutv (nameB s j) = nm at HCu HN2 HG2 hcz
      generalize nameB s j = nb at HSn HCu hnz hcz
      clear HH1 HSh1 HN1 HG1 HHd hh
      generalize fN s j 0 = x0 at HD
      generalize fN s j 6 = x6 at HD
      generalize fN s j 1 = x1 at HD HG2
      generalize fN s j 2 = x2 at HD HG2
      generalize fN s j 3 = x3 at HD HG2
      generalize fN s j 4 = x4 at HD HG2
      generalize fN s j 5 = x5 at HD HG2
      generalize fN s j 7 = x7 at HD HG2
      generalize fN s j 8 = x8 at HD HG2 HSh2 HN2 HSn HSd hbd8
      generalize fN s j 9 = x9 at HD HG2 HSh2 HN2 HSn HSd hbd9
      generalize s.extract (j + 6) (j + 76) = dg at HD HP
      have HS := HS76.out
      go_enter Tryz.func112, Tryz.ntmps112
      go_wp2_with fail
      refine (demand_ok 1 _).mono ?_
      rintro e w8 ⟨rfl, rfl⟩
      go_wp2_with fail
      refine (HP.out _).mono ?_
      rintro e w9 ⟨rfl, rfl⟩
      go_wp2_with fail
      refine (demand_ok 4 _).mono ?_
      rintro e w8 ⟨rfl, rfl⟩
      generalize hwA : World.alloc w _ = wA
      have R1 : Hid (CardO wA w.heap.size zeroC) := Lib.hid (by rw [← hwA]; exact R.out)
      have B1 : Hid (Below w.heap.size w wA) := Lib.hid (by rw [← hwA]; exact B.out)
      have hlt := R1.out.lt
      clear hwA R B HS
      go_wp2_with fail
      refine (HD.out _).mono ?_
      rintro e wH ⟨rfl, hb⟩
      have R2 : Hid (CardO wH w.heap.size zeroC) := Lib.hid ((hb.block _ hlt).trans R1.out)
      have hbz := hb.size
      have B2 := Lib.hid (B1.out.trans (hb.mono B1.out.size))
      clear hb R1 B1 HD
      go_upto_region 5 with fail
      generalize hwB : World.alloc wH _ = wB
      have XB : Hid (wB.heap[wH.heap.size]? = some (.cells #[.int .i64 x1, .int .i64 x2, .int .i64 x3, .int .i64 x4, .int .i64 x5, .int .i64 x7, .string ⟨#[]⟩, .string ⟨#[]⟩, .int .i64 x0, .int .i64 x6, .int .i64 x8, .int .i64 x9] 124 (0, 0))) := Lib.hid (by rw [← hwB]; exact heap_lastG _ _)
      have NB : Below wH.heap.size wH wB := by rw [← hwB]; exact (Below.refl _ _).alloc (Nat.le_refl _) _
      clear hwB
      have R3 : Hid (CardO wB w.heap.size zeroC) := Lib.hid ((NB.block _ (by omega)).trans R2.out)
      have B3 := Lib.hid (B2.out.trans (NB.mono B2.out.size))
      have hwz := B2.out.size
      have hbz2 : w.heap.size < wH.heap.size := by omega
      clear NB R2 B2
      have c10 : wB.cell? ⟨wH.heap.size, 10, none⟩ = some (.int .i64 x8) := by simp [World.cell?, XB.out]
      have c11 : wB.cell? ⟨wH.heap.size, 11, none⟩ = some (.int .i64 x9) := by simp [World.cell?, XB.out]
      have a1 : IntKind.i64.wrap ((j : Int) + 76 + x8) = (j : Int) + 76 + x8 := by rw [IntKind.wrap_i64]; omega
      have a2 : IntKind.i64.wrap ((j : Int) + 76 + x8 + x9) = (j : Int) + 76 + x8 + x9 := by rw [IntKind.wrap_i64]; omega
      by_cases h9 : (s.size : Int) < j + 76 + x8 + x9
      · have HE := Lib.hid (HSh2.out h9)
        have h9' : ¬ (j : Int) + 76 + x8 + x9 ≤ (s.size : Int) := by omega
        clear HSh2 HN2 HG2 h9
        go_wp2_with fail
        refine (demand_no 1 _).mono ?_
        rintro e w8 ⟨rfl, rfl⟩
        exact ⟨rfl, by rw [HE.out], B3.out⟩
      · have HN3 := Lib.hid (HN2.out (by omega))
        have HG3 := Lib.hid (HG2.out (by omega))
        have S1 := HSn.out (by omega)
        have S2 := HSd.out (by omega)
        have h9' : (j : Int) + 76 + x8 + x9 ≤ (s.size : Int) := by omega
        clear HSh2 HN2 HG2 h9 HSn HSd
        go_wp2_with fail
        refine (demand_ok 1 _).mono ?_
        rintro e w8 ⟨rfl, rfl⟩
        go_wp2_with fail
        refine (HCu.out _).mono ?_
        rintro e w5 ⟨rfl, hb⟩
        have lt := (Array.getElem?_eq_some_iff.1 XB.out).1
        have X5 : Hid (w5.heap[wH.heap.size]? = some (.cells #[.int .i64 x1, .int .i64 x2, .int .i64 x3, .int .i64 x4, .int .i64 x5, .int .i64 x7, .string ⟨#[]⟩, .string ⟨#[]⟩, .int .i64 x0, .int .i64 x6, .int .i64 x8, .int .i64 x9] 124 (0, 0))) := Lib.hid ((hb.block _ lt).trans XB.out)
        have R5 : Hid (CardO w5 w.heap.size zeroC) := Lib.hid ((hb.block _ (by omega)).trans R3.out)
        have B5 := Lib.hid (B3.out.trans (hb.mono B3.out.size))
        clear hb lt XB R3 B3 c10 c11
        have c6 : w5.cell? ⟨wH.heap.size, 6, none⟩ = some (.string ⟨#[]⟩) := by simp [World.cell?, X5.out]
        have z6 : w5.frozen? ⟨wH.heap.size, 6, none⟩ = false := by simp [World.frozen?, X5.out]
        go_upto_region 9 with fail
        generalize hw6 : World.setCell w5 _ _ = w6
        have X6 : Hid (w6.heap[wH.heap.size]? = some (.cells #[.int .i64 x1, .int .i64 x2, .int .i64 x3, .int .i64 x4, .int .i64 x5, .int .i64 x7, .string nm, .string ⟨#[]⟩, .int .i64 x0, .int .i64 x6, .int .i64 x8, .int .i64 x9] 124 (0, 0))) := Lib.hid (by rw [← hw6]; exact heap_setK X5.out)
        have R6 : Hid (CardO w6 w.heap.size zeroC) := Lib.hid (by rw [← hw6]; exact R5.out.other (by omega))
        have B6 : Hid (Below w.heap.size w w6) := Lib.hid (by rw [← hw6]; exact B5.out.setCell (by simp; omega) _)
        clear hw6 c6 z6 X5 R5 B5
        have c6 : w6.cell? ⟨wH.heap.size, 6, none⟩ = some (.string nm) := by simp [World.cell?, X6.out]
        have c10 : w6.cell? ⟨wH.heap.size, 10, none⟩ = some (.int .i64 x8) := by simp [World.cell?, X6.out]
        have hr6 := R6.out.lt
        have hx6 := (Array.getElem?_eq_some_iff.1 X6.out).1
        by_cases hn : (nm.size : Int) + 1 = x8
        · have HE := Lib.hid (HG3.out hn)
          clear HN3 HG3
          go_wp2_with fail
          refine (demand_ok 4 _).mono ?_
          rintro e w7 ⟨rfl, rfl⟩
          go_wp2_with fail
          refine (HCl.out _).mono ?_
          rintro e w8 ⟨rfl, hb⟩
          have X8 : Hid (w8.heap[wH.heap.size]? = some (.cells #[.int .i64 x1, .int .i64 x2, .int .i64 x3, .int .i64 x4, .int .i64 x5, .int .i64 x7, .string nm, .string ⟨#[]⟩, .int .i64 x0, .int .i64 x6, .int .i64 x8, .int .i64 x9] 124 (0, 0))) := Lib.hid ((hb.block _ (by first | exact hx6 | omega)).trans X6.out)
          have R8 : Hid (CardO w8 w.heap.size zeroC) := Lib.hid ((hb.block _ (by first | exact hr6 | omega)).trans R6.out)
          have B8 := Lib.hid (B6.out.trans (hb.mono B6.out.size))
          clear hb X6 R6 B6 c6 c10
          have c7 : w8.cell? ⟨wH.heap.size, 7, none⟩ = some (.string ⟨#[]⟩) := by simp [World.cell?, X8.out]
          have z7 : w8.frozen? ⟨wH.heap.size, 7, none⟩ = false := by simp [World.frozen?, X8.out]
          go_upto_region 11 with fail
          generalize hw9 : World.setCell w8 _ _ = w9
          have X9 : Hid (w9.heap[wH.heap.size]? = some (.cells #[.int .i64 x1, .int .i64 x2, .int .i64 x3, .int .i64 x4, .int .i64 x5, .int .i64 x7, .string nm, .string dat, .int .i64 x0, .int .i64 x6, .int .i64 x8, .int .i64 x9] 124 (0, 0))) := Lib.hid (by rw [← hw9]; exact heap_setK X8.out)
          have R9 : Hid (CardO w9 w.heap.size zeroC) := Lib.hid (by rw [← hw9]; exact R8.out.other (by omega))
          have B9 : Hid (Below w.heap.size w w9) := Lib.hid (by rw [← hw9]; exact B8.out.setCell (by simp; omega) _)
          clear hw9 c7 z7 X8 R8 B8
          have s0 : w9.cell? ⟨wH.heap.size, 0, none⟩ = some (.int .i64 x1) := by simp [World.cell?, X9.out]
          have s1 : w9.cell? ⟨wH.heap.size, 1, none⟩ = some (.int .i64 x2) := by simp [World.cell?, X9.out]
          have s2 : w9.cell? ⟨wH.heap.size, 2, none⟩ = some (.int .i64 x3) := by simp [World.cell?, X9.out]
          have s3 : w9.cell? ⟨wH.heap.size, 3, none⟩ = some (.int .i64 x4) := by simp [World.cell?, X9.out]
          have s4 : w9.cell? ⟨wH.heap.size, 4, none⟩ = some (.int .i64 x5) := by simp [World.cell?, X9.out]
          have s5 : w9.cell? ⟨wH.heap.size, 5, none⟩ = some (.int .i64 x7) := by simp [World.cell?, X9.out]
          have s6 : w9.cell? ⟨wH.heap.size, 6, none⟩ = some (.string nm) := by simp [World.cell?, X9.out]
          have s7 : w9.cell? ⟨wH.heap.size, 7, none⟩ = some (.string dat) := by simp [World.cell?, X9.out]
          have hR := R9.out
          unfold CardO at hR
          have r0 : w9.cell? ⟨w.heap.size, 0, none⟩ = some (.int .i64 0) := by simp [World.cell?, hR, zeroC, Card.cells]
          have r1 : w9.cell? ⟨w.heap.size, 1, none⟩ = some (.int .i64 0) := by simp [World.cell?, hR, zeroC, Card.cells]
          have r2 : w9.cell? ⟨w.heap.size, 2, none⟩ = some (.int .i64 0) := by simp [World.cell?, hR, zeroC, Card.cells]
          have r3 : w9.cell? ⟨w.heap.size, 3, none⟩ = some (.int .i64 0) := by simp [World.cell?, hR, zeroC, Card.cells]
          have r4 : w9.cell? ⟨w.heap.size, 4, none⟩ = some (.int .i64 0) := by simp [World.cell?, hR, zeroC, Card.cells]
          have r5 : w9.cell? ⟨w.heap.size, 5, none⟩ = some (.int .i64 0) := by simp [World.cell?, hR, zeroC, Card.cells]
          have r6 : w9.cell? ⟨w.heap.size, 6, none⟩ = some (.string ⟨#[]⟩) := by simp [World.cell?, hR, zeroC, Card.cells]
          have r7 : w9.cell? ⟨w.heap.size, 7, none⟩ = some (.string ⟨#[]⟩) := by simp [World.cell?, hR, zeroC, Card.cells]
          have z0 := R9.out.fz 0
          have z1 := R9.out.fz 1
          have z2 := R9.out.fz 2
          have z3 := R9.out.fz 3
          have z4 := R9.out.fz 4
          have z5 := R9.out.fz 5
          have z6 := R9.out.fz 6
          have z7 := R9.out.fz 7
          have R10 := R9.out.put ⟨x1, x2, x3, x4, x5, x7, nm, dat⟩
          have B10 := below_putOC (g := w.heap.size) B9.out (Nat.le_refl _) ⟨x1, x2, x3, x4, x5, x7, nm, dat⟩
          simp only [putOC] at R10 B10
          have HR := Lib.hid R10
          have HB := Lib.hid B10
          clear R10 B10 hR
          go_wp2_with fail
          refine bodyPost_ret (res_OC2 rfl _ rfl HR.out) rfl ?_
          exact ⟨HE.out.symm, HB.out⟩
        · have HE := Lib.hid (HN3.out hn)
          have hnf : ((nm.size : Int) + 1 == x8) = false := by simpa using hn
          clear HN3 HG3
          go_wp2_with fail
          refine (demand_no 4 _).mono ?_
          rintro e w7 ⟨rfl, rfl⟩
          exact ⟨rfl, by rw [HE.out], B6.out⟩
    · have HE := Lib.hid (HH1.out hh)
      have HD : Hid (∀ w, Calls Tryz.prog 151 #[.string (s.extract (j + 6) (j + 76))] w fun e w' => e = .panicked (panC 3) ∧ Below w.heap.size w w') := Lib.hid (fun w => by
        have h9 := HHd.out w
        rw [hdE, if_neg hh] at h9
        exact h9)
      clear HH1 HSh1 HN1 HG1 HHd hh
      have HS := HS76.out
      go_enter Tryz.func112, Tryz.ntmps112
      go_wp2_with fail
      refine (demand_ok 1 _).mono ?_
      rintro e w8 ⟨rfl, rfl⟩
      go_wp2_with fail
      refine (HP.out _).mono ?_
      rintro e w9 ⟨rfl, rfl⟩
      go_wp2_with fail
      refine (demand_ok 4 _).mono ?_
      rintro e w8 ⟨rfl, rfl⟩
      go_wp2_with fail
      refine (HD.out _).mono ?_
      rintro e wH ⟨rfl, hb⟩
      exact ⟨rfl, by rw [HE.out], B.out.trans (hb.mono B.out.size)⟩
  · have HE := Lib.hid (HM.out hm)
    have hf : ((s.extract j (j + 6)).toList == magicB.toList) = false := by
      have h9 : ¬ (s.extract j (j + 6)).toList = magicB.toList := fun h => hm (ba_ext (by rw [← ByteArray.toList_eq, ← ByteArray.toList_eq]; exact h))
      simpa using h9
    rw [hf] at HP
    clear HM HH HSh HN HG hm hf HHd
    have HS := HS76.out
    go_enter Tryz.func112, Tryz.ntmps112
    go_wp2_with fail
    refine (demand_ok 1 _).mono ?_
    rintro e w8 ⟨rfl, rfl⟩
    go_wp2_with fail
    refine (HP.out _).mono ?_
    rintro e w9 ⟨rfl, rfl⟩
    go_wp2_with fail
    refine (demand_no 4 _).mono ?_
    rintro e w8 ⟨rfl, rfl⟩
    exact ⟨rfl, by rw [HE.out], B.out⟩
end Go.Proofs.YtcnmbolmgifgfabGreatDoor

/- The deferred function of impl.GetCard: what it does for a frame that panics with a code, and for one that returns. -/
namespace Go.Proofs.YtcnmbolmgifgfabGreatDoor
open Go.ChangeShapes Go.WideShapes Go.ChangeAt Go.RowKit

theorem get_catch (gc gi gk gn : Nat) (c i y0 y1 : Int) (x : Card) (w : World) (hc : ¬ c = 0) (h1 : gc ≠ gk) (h2 : gc ≠ gn) (h3 : gk ≠ gn) (h4 : gi ≠ gc) (h5 : gi ≠ gk)
    (hgc : w.heap[gc]? = some (.cells #[.int .i64 y0] 3 (0, 0))) (hgi : w.heap[gi]? = some (.cells #[.int .i64 i] 3 (0, 0))) (hgn : w.heap[gn]? = some (.cells #[.int .i64 y1] 3 (0, 0))) (hgk : CardO w gk x) :
    CallsD Tryz.prog 111 #[.pointer (some ⟨gc, 0, none⟩), .pointer (some ⟨gi, 0, none⟩), .pointer (some ⟨gk, 0, none⟩), .pointer (some ⟨gn, 0, none⟩)] (.panicking [{ v := .iface 131 (.agg #[.int .i64 c]), recovered := false }]) w fun e u' w' =>
      e = .returned (.tuple #[]) ∧ u' = .panicking [{ v := .iface 131 (.agg #[.int .i64 c]), recovered := true }] ∧ ∃ w1, Below w.heap.size w w1 ∧ w' = (putOC (w1.setCell ⟨gc, 0, none⟩ (.int .i64 c)) gk zeroC).setCell ⟨gn, 0, none⟩ (.int .i64 i) := by
  have lc := (Array.getElem?_eq_some_iff.1 hgc).1
  have li := (Array.getElem?_eq_some_iff.1 hgi).1
  have ln := (Array.getElem?_eq_some_iff.1 hgn).1
  have lk := hgk.lt
  refine callsD_of_wpS Tryz.func111 rfl fun c₀ cs hu => ?_
  apply wpS_seq
  apply wpS_region
  simp [wpOpsS, go_sem, recoverD, hu, Tryz.ntmps111, Exit.thenS]
  refine (cardCode_some c _).mono ?_
  rintro e w1 ⟨rfl, hb⟩
  have bc := (hb.block gc lc).trans hgc
  have bi := (hb.block gi li).trans hgi
  have bn := (hb.block gn ln).trans hgn
  have bk : CardO w1 gk x := (hb.block gk lk).trans hgk
  have hx1 : w1.cell? ⟨gc, 0, none⟩ = some (.int .i64 y0) := by simp [World.cell?, bc]
  have hz1 : w1.frozen? ⟨gc, 0, none⟩ = false := by simp [World.frozen?, bc]
  simp [go_sem, hx1, hz1]
  generalize hwA : w1.setCell ⟨gc, 0, none⟩ (.int .i64 c) = wA
  have ac : wA.cell? ⟨gc, 0, none⟩ = some (.int .i64 c) := by rw [← hwA]; first | exact World.cell?_setCell_same _ _ _ hx1 | simp [go_sem, hx1]
  have ai : wA.cell? ⟨gi, 0, none⟩ = some (.int .i64 i) := by
    have h10 := Below.heap_setCell w1 ⟨gc, 0, none⟩ (.int .i64 c) gi (by simpa using h4)
    rw [hwA, bi] at h10
    simp [World.cell?, h10]
  have hn : wA.heap[gn]? = some (.cells #[.int .i64 y1] 3 (0, 0)) := by rw [← hwA, Below.heap_setCell _ _ _ _ (by simp; omega)]; exact bn
  have hk : CardO wA gk x := by rw [← hwA]; exact bk.other (by omega)
  have an : wA.cell? ⟨gn, 0, none⟩ = some (.int .i64 y1) := by simp [World.cell?, hn]
  have fn : wA.frozen? ⟨gn, 0, none⟩ = false := by simp [World.frozen?, hn]
  have k0 := hk.at 0 (by decide)
  have k1 := hk.at 1 (by decide)
  have k2 := hk.at 2 (by decide)
  have k3 := hk.at 3 (by decide)
  have k4 := hk.at 4 (by decide)
  have k5 := hk.at 5 (by decide)
  have k6 := hk.at 6 (by decide)
  have k7 := hk.at 7 (by decide)
  simp [Card.cells] at k0 k1 k2 k3 k4 k5 k6 k7
  have f0 := hk.fz 0
  have f1 := hk.fz 1
  have f2 := hk.fz 2
  have f3 := hk.fz 3
  have f4 := hk.fz 4
  have f5 := hk.fz 5
  have f6 := hk.fz 6
  have f7 := hk.fz 7
  apply wpS_seq
  apply wpS_region
  simp [wpOpsS, go_sem, ac, Exit.thenS]
  refine wpS_cond (t := true) (by simp [Act.eval, Array.replicate, hc]) ?_
  simp only [if_true]
  apply wpS_region
  simp [wpOpsS, go_sem, ai, an, fn, k0, k1, k2, k3, k4, k5, k6, k7, f0, f1, f2, f3, f4, f5, f6, f7, bodyPostS, results, Tryz.results111]
  rw [← hwA]
  exact ⟨w1, hb, rfl⟩
theorem get_idle (gc gi gk gn : Nat) (y0 : Int) (w : World) (hgc : w.heap[gc]? = some (.cells #[.int .i64 y0] 3 (0, 0))) :
    CallsD Tryz.prog 111 #[.pointer (some ⟨gc, 0, none⟩), .pointer (some ⟨gi, 0, none⟩), .pointer (some ⟨gk, 0, none⟩), .pointer (some ⟨gn, 0, none⟩)] .returning w fun e u' w' =>
      e = .returned (.tuple #[]) ∧ u' = .returning ∧ ∃ w1, Below w.heap.size w w1 ∧ w' = w1.setCell ⟨gc, 0, none⟩ (.int .i64 0) := by
  have lc := (Array.getElem?_eq_some_iff.1 hgc).1
  refine callsD_of_wpS Tryz.func111 rfl fun c₀ cs hu => ?_
  apply wpS_seq
  apply wpS_region
  simp [wpOpsS, go_sem, recoverD, hu, Tryz.ntmps111, Exit.thenS]
  refine (cardCode_nil _).mono ?_
  rintro e w1 ⟨rfl, hb⟩
  have bc := (hb.block gc lc).trans hgc
  have hx1 : w1.cell? ⟨gc, 0, none⟩ = some (.int .i64 y0) := by simp [World.cell?, bc]
  have hz1 : w1.frozen? ⟨gc, 0, none⟩ = false := by simp [World.frozen?, bc]
  simp [go_sem, hx1, hz1]
  generalize hwA : w1.setCell ⟨gc, 0, none⟩ (.int .i64 0) = wA
  have ac : wA.cell? ⟨gc, 0, none⟩ = some (.int .i64 0) := by rw [← hwA]; first | exact World.cell?_setCell_same _ _ _ hx1 | simp [go_sem, hx1]
  apply wpS_seq
  apply wpS_region
  simp [wpOpsS, go_sem, ac, Exit.thenS]
  refine wpS_cond (t := false) (by simp [Act.eval, Array.replicate]) ?_
  simp only [Bool.false_eq_true, if_false]
  refine wpS_of_wp (wp_skip ?_)
  cases c₀
  simp_all [bodyPostS, results, Tryz.results111]
  exact ⟨w1, hb, hwA.symm⟩
end Go.Proofs.YtcnmbolmgifgfabGreatDoor

/- A statement that draws its order and writes memory: beside what each slot holds, what each operation has left in memory. Nothing of the program is said here. -/
namespace Go.Proofs.YtcnmbolmgifgfabGreatDoor
open Go

section
variable {P : Program} {ops : Array Oper} {Q : Exit → Act → World → Prop} {md : Region.Mode}

/-- What has come up has left what it should, all else is as it was. -/
structure RegIU (md : Region.Mode) (ops : Array Oper) (C : World → Prop) (V : Nat → Value → World → Prop) (U : Oper → World → Prop) (a0 : Act) (listed : Array Bool) (a : Act) (w : World) : Prop where
  size : listed.size = ops.size
  clo : ∀ j p, ops[j]? = some p → listed.getD j false = true → ∀ e ∈ p.after, Region.binds md e = true → listed.getD e.on false = true
  cls : C w
  defers : a.defers = a0.defers
  tsize : a.tmps.size = a0.tmps.size
  old : ∀ t, (∀ i o, ops[i]? = some o → listed.getD i false = true → o.dst ≠ some t) → a.tmps.getD t undef = a0.tmps.getD t undef
  unew : ∀ i o, ops[i]? = some o → listed.getD i false = true → U o w
  new : ∀ i o d, ops[i]? = some o → listed.getD i false = true → o.dst = some d → V d (a.tmps.getD d undef) w
/-- One operation, in whatever state what it looks at is there. -/
def OpOkU (P : Program) (ops : Array Oper) (C : World → Prop) (St : World → World → Prop) (V : Nat → Value → World → Prop) (U : Oper → World → Prop) (a0 : Act) (o : Oper) : Prop :=
  ∀ (Q : Exit → Act → World → Prop) (a : Act) (w : World), C w → (∀ t, Operand.tmp t ∈ o.op.operands → oldB .any ops o t = false → V t (a.eval (.tmp t)) w) → (∀ t, Operand.tmp t ∈ o.op.operands → oldB .any ops o t = true → a.eval (.tmp t) = a0.eval (.tmp t)) →
    o.wp P a w (fun a' w' => ∃ v, a' = a.put o.dst v ∧ C w' ∧ St w w' ∧ (∀ d, o.dst = some d → V d v w') ∧ U o w') Q
/-- **The region, in whatever order.** -/
theorem wp_region_u {id : Nat} {a0 : Act} {w0 : World} {l : List Oper} (hm : P.follows .mixedOrders = true) (C : World → Prop) (St : World → World → Prop) (V : Nat → Value → World → Prop) (U : Oper → World → Prop) (hB : regB .any l.toArray a0.tmps.size = true)
    (hC : C { w0 with drawn := w0.drawn + 1 }) (hV : ∀ d v w w', C w → St w w' → V d v w → V d v w') (hU : ∀ o w w', C w → St w w' → U o w → U o w') (hops : ∀ o ∈ l, OpOkU P l.toArray C St V U a0 o)
    (hend : ∀ (f : Nat → Value) (w : World), C w → (∀ o ∈ l, ∀ d, o.dst = some d → V d (f d) w) → (∀ o ∈ l, U o w) → Q .normal (putAll f l a0) w) : (Code.region id l.toArray true).wp P Q a0 w0 := by
  refine wp_region_any hm (wpAny_inv (RegIU .any l.toArray C V U a0) ?_ ?_ _ _ _ _ ?_ ?_)
  · intro listed a w hI i hi
    obtain ⟨hun, o, ho, hall⟩ := mem_ready.1 hi
    have hat := regB_at hB ho
    have hwant : Region.wanted o (yielded l.toArray a.tmps) = true := by simp [Region.wanted, hat.1]
    have hmem : o ∈ l := by
      have := Array.mem_of_getElem? ho
      simpa using this
    have hrun := hops o hmem Q a w hI.cls (fun t ht hin => ?_) (fun t ht hin => ?_)
    · unfold wpOp
      simp only [ho, hwant, if_true]
      refine .inl (Oper.wp_mono (fun a' w' h' => ?_) hrun)
      obtain ⟨v, rfl, hC', hSt, hv, hu⟩ := h'
      have hltl : i < listed.size := by rw [hI.size]; exact (Array.getElem?_eq_some_iff.1 ho).1
      refine ⟨by simpa using hI.size, fun j p hp hl e he hb => ?_, hC', ?_, ?_, fun t ht => ?_, fun j p hp hl => ?_, fun j p d hp hl hd => ?_⟩
      · have hup : ∀ k, listed.getD k false = true → (listed.setIfInBounds i true).getD k false = true := fun k hk => by
          by_cases q : k = i
          · subst q; exact set_getD_self hltl
          · rw [set_getD_ne q]; exact hk
        by_cases hj : j = i
        · subst hj
          rw [ho] at hp
          obtain rfl := Option.some.inj hp
          exact hup _ (hall e he hb)
        · rw [set_getD_ne hj] at hl
          exact hup _ (hI.clo j p hp hl e he hb)
      · cases hdst : o.dst <;> simp [Act.put, hI.defers]
      · cases hdst : o.dst <;> simp [Act.put, hI.tsize]
      · have hne : o.dst ≠ some t := ht i o ho (set_getD_self hltl)
        have h1 := hI.old t (fun j p hp hl => ht j p hp (by
          by_cases hj : j = i
          · subst hj; exact set_getD_self hltl
          · rw [set_getD_ne hj]; exact hl))
        rw [← h1]
        cases hdst : o.dst with
        | none => rfl
        | some d =>
          have hdt : d ≠ t := fun e => hne (by rw [hdst, e])
          exact getD_put_ne hdt
      · by_cases hj : j = i
        · subst hj
          rw [ho] at hp
          obtain rfl := Option.some.inj hp
          exact hu
        · have hl' : listed.getD j false = true := by rw [set_getD_ne hj] at hl; exact hl
          exact hU p _ _ hI.cls hSt (hI.unew j p hp hl')
      · by_cases hj : j = i
        · subst hj
          rw [ho] at hp
          obtain rfl := Option.some.inj hp
          have hdl := hat.2.1 d hd
          have : (a.put o.dst v).tmps.getD d undef = v := by
            rw [hd]; simp [Act.put, Array.getD, hI.tsize, hdl]
          rw [this]
          exact hv d hd
        · have hl' : listed.getD j false = true := by rw [set_getD_ne hj] at hl; exact hl
          have hne : o.dst ≠ some d := ((hat.2.2.2 j p d hp hd).1).resolve_left (Ne.symm hj)
          have hold := hI.new j p d hp hl' hd
          have : (a.put o.dst v).tmps.getD d undef = a.tmps.getD d undef := by
            cases hdst : o.dst with
            | none => rfl
            | some d' =>
              have hdt : d' ≠ d := fun e => hne (by rw [hdst, e])
              exact getD_put_ne hdt
          rw [this]
          exact hV d _ _ _ hI.cls hSt hold
    · obtain ⟨j, p, hp, hd⟩ := oldB_f hin
      obtain ⟨e, he, hb, rfl⟩ := (hat.2.2.2 j p t hp hd).2 (by simpa using ht) hin
      exact hI.new e.on p t hp (hall e he hb) hd
    · refine hI.old t (fun j p hp hl hd => ?_)
      obtain ⟨d, hod, e, he, hb, hq⟩ := oldB_t hin hp hd
      have hel := hI.clo j p hp hl e he hb
      cases hqq : l.toArray[e.on]? with
      | none => rw [hqq] at hq; cases hq
      | some q =>
        rw [hqq] at hq
        rcases (hat.2.2.2 e.on q d hqq hq).1 with rfl | h
        · have hlt : e.on < listed.size := by rw [hI.size]; exact (Array.getElem?_eq_some_iff.1 hqq).1
          simp only [Array.getD, hlt, dif_pos] at hel hun
          rw [hel] at hun
          cases hun
        · exact h hod
  · intro listed a w hI hr
    have hal := all_listed hB hI.size hr
    have hput := putAll_facts (fun d => a.tmps.getD d undef) l a0
    have ha : a = putAll (fun d => a.tmps.getD d undef) l a0 := by
      refine act_ext (hI.defers.trans hput.1.symm) (hI.tsize.trans hput.2.1.symm) (fun t ht => ?_)
      rw [hput.2.1] at ht
      rw [hput.2.2 t ht]
      by_cases h : l.any (fun o => o.dst == some t) = true
      · rw [if_pos h]
      · rw [if_neg h]
        refine hI.old t (fun i o ho _ hd => h ?_)
        rw [List.any_eq_true]
        exact ⟨o, by have := Array.mem_of_getElem? ho; simpa using this, by rw [hd]; simp⟩
    rw [ha]
    refine hend _ w hI.cls (fun o ho d hd => ?_) (fun o ho => ?_)
    rotate_left
    · obtain ⟨i, hi⟩ := List.mem_iff_getElem?.1 ho
      have hi' : l.toArray[i]? = some o := by simpa using hi
      exact hI.unew i o hi' (hal i (Array.getElem?_eq_some_iff.1 hi').1)
    obtain ⟨i, hi⟩ := List.mem_iff_getElem?.1 ho
    have hi' : l.toArray[i]? = some o := by simpa using hi
    exact hI.new i o d hi' (hal i (Array.getElem?_eq_some_iff.1 hi').1) hd
  · unfold openOps
    exact Nat.le_trans (List.length_filter_le _ _) (by simp)
  · refine ⟨by simp, fun j p _ hl => ?_, hC, rfl, rfl, fun t _ => rfl, fun i o ho hl => ?_, fun i o d ho hl _ => ?_⟩
    · simp [Array.getD] at hl
    · simp [Array.getD] at hl
    · simp [Array.getD] at hl
theorem opU_val {C : World → Prop} {St : World → World → Prop} {V : Nat → Value → World → Prop} {U : Oper → World → Prop} {o : Oper} {a : Act} {w w' : World} (v : Value) (h : (execOp a.eval o).run P w = .ok (.value v) w') (hC : C w') (hS : St w w') (hv : ∀ d, o.dst = some d → V d v w') (hu : U o w') :
    o.wp P a w (fun a' w' => ∃ v, a' = a.put o.dst v ∧ C w' ∧ St w w' ∧ (∀ d, o.dst = some d → V d v w') ∧ U o w') Q := by
  unfold Oper.wp
  rw [h]
  exact ⟨v, rfl, hC, hS, hv, hu⟩
theorem opU_call {C : World → Prop} {St : World → World → Prop} {V : Nat → Value → World → Prop} {U : Oper → World → Prop} {o : Oper} {a : Act} {w : World} {f : FuncId} {args : Array Value} {R : Value → World → Prop} (h : (execOp a.eval o).run P w = .ok (.enter f args) w)
    (hc : Calls P f args w fun e w' => ∃ v, e = .returned v ∧ R v w') (hR : ∀ v w', R v w' → C w' ∧ St w w' ∧ (∀ d, o.dst = some d → V d v w') ∧ U o w') :
    o.wp P a w (fun a' w' => ∃ v, a' = a.put o.dst v ∧ C w' ∧ St w w' ∧ (∀ d, o.dst = some d → V d v w') ∧ U o w') Q := by
  unfold Oper.wp
  rw [h]
  refine Calls.mono hc (fun e w' he => ?_)
  obtain ⟨v, rfl, hr⟩ := he
  obtain ⟨h1, h2, h3, h4⟩ := hR v w' hr
  exact ⟨v, rfl, h1, h2, h3, h4⟩
theorem opU_store {C : World → Prop} {St : World → World → Prop} {V : Nat → Value → World → Prop} {U : Oper → World → Prop} {o : Oper} {a : Act} {w w' : World} (ty : TypeId) (x y : Operand) (ho : o.op = .store ty x y) (hd : o.dst = none) (g : Addr) (hx : a.eval x = .pointer (some g)) {v : Value} (hy : a.eval y = v) (hr : (storeVar ty g v).run P w = .ok () w') (hC : C w') (hS : St w w') (hu : U o w') :
    o.wp P a w (fun a' w' => ∃ v, a' = a.put o.dst v ∧ C w' ∧ St w w' ∧ (∀ d, o.dst = some d → V d v w') ∧ U o w') Q := by
  unfold Oper.wp execOp
  simp only [ho, hx, hy, Instr.storeAt, Instr.sureAddr, Sem.run_bind, Sem.run_pure, Result.andThen_ok, hr]
  exact ⟨undef, rfl, hC, hS, fun d h => (by rw [hd] at h; cases h), hu⟩
end
end Go.Proofs.YtcnmbolmgifgfabGreatDoor
