/- The draws of words, and the law laws.FnWords: for every slice of bytes it returns true. -/
import Derived.Test.YtndgppabfdeecabPut32
import Derived.Test.YtndgppabfdeecabGet32
import Derived.Test.YtndgppabfdeecabNew
namespace Go.Proofs.Ytndgppabfdeecab
open Go.ChangeShapes Go.WideShapes Go.ChangeAt Go.RowKit

theorem and32 (n : Int) : bits .and .i64 n 4294967295 = n % 4294967296 := by
  have h : (BitVec.ofInt 64 4294967295).toNat = 2 ^ 32 - 1 := by decide
  have key : (BitVec.ofInt 64 n &&& BitVec.ofInt 64 4294967295).toNat = (n % ((2 ^ 64 : Nat) : Int)).toNat % 2 ^ 32 := by
    rw [BitVec.toNat_and, BitVec.toNat_ofInt, h, Nat.and_two_pow_sub_one_eq_mod]
  show IntKind.i64.wrap ((BitVec.ofInt 64 n &&& BitVec.ofInt 64 4294967295).toNat : Nat) = n % 4294967296
  rw [key, IntKind.wrap_i64]
  omega
theorem byteAt_nums (l : List Int) (k : Nat) (hk : k < l.length) (h0 : 0 ≤ l[k]) (h1 : l[k] ≤ 255) : byteAt (strOfNums l) k = l[k] := by
  unfold byteAt
  rw [strOfNums_data]
  simp only [List.getD_eq_getElem?_getD, List.getElem?_map, List.getElem?_eq_getElem hk, Option.map_some, Option.getD_some]
  have : (UInt8.ofNat (l[k]).toNat).toNat = (l[k]).toNat := by simp; omega
  rw [this]; omega
theorem get16_put16 (n : Int) (high : Bool) : get16v (put16v n high) 0 high = n % 65536 := by
  have hs : (put16v n high).size = 2 := by rw [put16v, strOfNums_size]; cases high <;> rfl
  have hn : ¬ ((0 : Int) < 0 ∨ ((put16v n high).size : Int) - 2 < 0) := by omega
  rw [get16v, if_neg hn]
  cases high
  · have b0 := byteAt_nums (put16l n false) 0 (by simp [put16l]) (by simp [put16l]; omega) (by simp [put16l]; omega)
    have b1 := byteAt_nums (put16l n false) 1 (by simp [put16l]) (by simp [put16l]; omega) (by simp [put16l]; omega)
    simp [put16l] at b0 b1
    simp [put16v, put16l, b0, b1]; omega
  · have b0 := byteAt_nums (put16l n true) 0 (by simp [put16l]) (by simp [put16l]; omega) (by simp [put16l]; omega)
    have b1 := byteAt_nums (put16l n true) 1 (by simp [put16l]) (by simp [put16l]; omega) (by simp [put16l]; omega)
    simp [put16l] at b0 b1
    simp [put16v, put16l, b0, b1]; omega
theorem get32_put32 (n : Int) (high : Bool) : get32v (put32v n high) 0 high = n % 4294967296 := by
  have hs : (put32v n high).size = 4 := by rw [put32v, strOfNums_size]; cases high <;> rfl
  have h := get32v_at (put32v n high) 0 high (by omega)
  rw [show ((0 : Nat) : Int) = 0 from rfl] at h
  rw [h]
  have h0 := get16v_at (put32v n high) 0 high (by omega)
  have h2 := get16v_at (put32v n high) 2 high (by omega)
  rw [show ((0 : Nat) : Int) = 0 from rfl] at h0
  rw [show ((0 + 2 : Nat) : Int) = ((2 : Nat) : Int) from rfl, h0, h2]
  cases high
  · have b0 := byteAt_nums (put16l (n / 65536) false ++ put16l n false) 0 (by simp [put16l]) (by simp [put16l]; omega) (by simp [put16l]; omega)
    have b1 := byteAt_nums (put16l (n / 65536) false ++ put16l n false) 1 (by simp [put16l]) (by simp [put16l]; omega) (by simp [put16l]; omega)
    have b2 := byteAt_nums (put16l (n / 65536) false ++ put16l n false) 2 (by simp [put16l]) (by simp [put16l]; omega) (by simp [put16l]; omega)
    have b3 := byteAt_nums (put16l (n / 65536) false ++ put16l n false) 3 (by simp [put16l]) (by simp [put16l]; omega) (by simp [put16l]; omega)
    simp [put16l] at b0 b1 b2 b3
    simp [put32v, put16l, b0, b1, b2, b3]; omega
  · have b0 := byteAt_nums (put16l (n / 65536) true ++ put16l n true) 0 (by simp [put16l]) (by simp [put16l]; omega) (by simp [put16l]; omega)
    have b1 := byteAt_nums (put16l (n / 65536) true ++ put16l n true) 1 (by simp [put16l]) (by simp [put16l]; omega) (by simp [put16l]; omega)
    have b2 := byteAt_nums (put16l (n / 65536) true ++ put16l n true) 2 (by simp [put16l]) (by simp [put16l]; omega) (by simp [put16l]; omega)
    have b3 := byteAt_nums (put16l (n / 65536) true ++ put16l n true) 3 (by simp [put16l]) (by simp [put16l]; omega) (by simp [put16l]; omega)
    simp [put16l] at b0 b1 b2 b3
    simp [put32v, put16l, b0, b1, b2, b3]; omega

/-- A number and a bool drawn. -/
def DrawNB (w : World) (e : Ending) (w' : World) : Prop := ∃ (n : Int) (b : Bool), NumR n ∧ e = .returned (.tuple #[.int .i64 n, .bool b]) ∧ Below w.heap.size w w'
/-- A short string, an int and a bool drawn. -/
def DrawSNB (w : World) (e : Ending) (w' : World) : Prop := ∃ (s : ByteArray) (i : Int) (b : Bool), s.size ≤ 20 ∧ e = .returned (.tuple #[.string s, .int .i64 i, .bool b]) ∧ Below w.heap.size w w'
def AnyI (_ : Int) : Prop := True

theorem drawPut16 (a : Option Addr) (len cap : Nat) (w : World) (hC : CodeIn w a len) :
    Calls Try.prog 21 #[.slice a len cap] w (DrawNB w) := by
  have HC := Lib.hid hC
  clear hC
  go_enter Try.func21, Try.ntmps21
  go_wp2_with fail
  refine (new_any a len cap _ HC.out).mono ?_
  rintro e w1 ⟨rfl, hc1, b1⟩
  have C1 := Lib.hid hc1
  have B1 := Lib.hid b1
  clear hc1 b1
  go_wp2_with fail
  refine (num_any _ a len cap _ _ C1.out).mono ?_
  rintro e w2 ⟨n, hn, rfl, hc2, g2⟩
  have C2 := Lib.hid hc2
  have G2 := Lib.hid g2
  have HN := Lib.hid hn
  clear hc2 g2 hn
  go_wp2_with fail
  refine (once_any _ a len cap _ _ _ C2.out (by omega) (by omega)).mono ?_
  rintro e w3 ⟨b, rfl, hc3, g3⟩
  have G3 := Lib.hid (gtrans G2.out g3)
  clear hc3 g3
  go_wp2_with fail
  go_ret2
  exact ⟨n, b, HN.out, rfl, below_of_g B1.out (Nat.le_refl _) G3.out⟩

theorem drawGet16 (a : Option Addr) (len cap : Nat) (w : World) (hC : CodeIn w a len) :
    Calls Try.prog 23 #[.slice a len cap] w (DrawSNB w) := by
  have HC := Lib.hid hC
  clear hC
  go_enter Try.func23, Try.ntmps23
  go_wp2_with fail
  refine (new_any a len cap _ HC.out).mono ?_
  rintro e w1 ⟨rfl, hc1, b1⟩
  have C1 := Lib.hid hc1
  have B1 := Lib.hid b1
  clear hc1 b1
  go_wp2_with fail
  refine (num_any _ a len cap _ _ C1.out).mono ?_
  rintro e w2 ⟨n, hn, rfl, hc2, g2⟩
  have C2 := Lib.hid hc2
  have G2 := Lib.hid g2
  clear hc2 g2 hn
  go_wp2_with fail
  refine (once_any _ a len cap _ _ _ C2.out (by omega) (by omega)).mono ?_
  rintro e w3 ⟨b, rfl, hc3, g3⟩
  have C3 := Lib.hid hc3
  have G3 := Lib.hid (gtrans G2.out g3)
  clear hc3 g3
  go_wp2_with fail
  refine (put16_spec _ _ _).mono ?_
  rintro e w4 ⟨rfl, b4⟩
  have hps : (put16v n b).size ≤ 4 := by have := put16v_size n b; omega
  have C4 := Lib.hid (C3.out.below b4)
  have G4 := Lib.hid (gtrans G3.out (gbelow b4 _))
  clear b4
  go_wp2_with fail
  have hL := listAt_lit AnyI w4 [0, 1, 2, 3, -1, 9223372036854775807] (fun _ _ => trivial) 3
  refine (pickInt_any AnyI _ a len cap _ w4.heap.size 6 _ (C4.out.alloc _) hL (Nat.ne_of_gt C4.out.lt) (by omega) (by omega)).mono ?_
  rintro e w5 ⟨z, hz, rfl, hc5, g5⟩
  have C5 := Lib.hid hc5
  have G5 := Lib.hid (gtrans G4.out (gtrans (galloc _ _ _) g5))
  clear hc5 g5 hL hz
  go_wp2_with fail
  refine (once_any _ a len cap _ _ _ C5.out (by omega) (by omega)).mono ?_
  rintro e w6 ⟨b', rfl, hc6, g6⟩
  have G6 := Lib.hid (gtrans G5.out g6)
  clear hc6 g6
  go_wp2_with fail
  go_ret3
  refine ⟨_, z, b', ?_, rfl, below_of_g B1.out (Nat.le_refl _) G6.out⟩
  rw [ByteArray.size_append]
  have : (⟨#[97, 98]⟩ : ByteArray).size = 2 := rfl
  omega

theorem drawPut32 (a : Option Addr) (len cap : Nat) (w : World) (hC : CodeIn w a len) :
    Calls Try.prog 22 #[.slice a len cap] w (DrawNB w) := by
  have HC := Lib.hid hC
  clear hC
  go_enter Try.func22, Try.ntmps22
  go_wp2_with fail
  refine (new_any a len cap _ HC.out).mono ?_
  rintro e w1 ⟨rfl, hc1, b1⟩
  have C1 := Lib.hid hc1
  have B1 := Lib.hid b1
  clear hc1 b1
  go_wp2_with fail
  refine (num_any _ a len cap _ _ C1.out).mono ?_
  rintro e w2 ⟨n, hn, rfl, hc2, g2⟩
  have C2 := Lib.hid hc2
  have G2 := Lib.hid g2
  have HN := Lib.hid hn
  clear hc2 g2 hn
  go_wp2_with fail
  refine (once_any _ a len cap _ _ _ C2.out (by omega) (by omega)).mono ?_
  rintro e w3 ⟨b, rfl, hc3, g3⟩
  have G3 := Lib.hid (gtrans G2.out g3)
  clear hc3 g3
  go_wp2_with fail
  go_ret2
  exact ⟨n, b, HN.out, rfl, below_of_g B1.out (Nat.le_refl _) G3.out⟩

theorem drawGet32 (a : Option Addr) (len cap : Nat) (w : World) (hC : CodeIn w a len) :
    Calls Try.prog 24 #[.slice a len cap] w (DrawSNB w) := by
  have HC := Lib.hid hC
  clear hC
  go_enter Try.func24, Try.ntmps24
  go_wp2_with fail
  refine (new_any a len cap _ HC.out).mono ?_
  rintro e w1 ⟨rfl, hc1, b1⟩
  have C1 := Lib.hid hc1
  have B1 := Lib.hid b1
  clear hc1 b1
  go_wp2_with fail
  refine (num_any _ a len cap _ _ C1.out).mono ?_
  rintro e w2 ⟨n, hn, rfl, hc2, g2⟩
  have C2 := Lib.hid hc2
  have G2 := Lib.hid g2
  clear hc2 g2 hn
  go_wp2_with fail
  refine (once_any _ a len cap _ _ _ C2.out (by omega) (by omega)).mono ?_
  rintro e w3 ⟨b, rfl, hc3, g3⟩
  have C3 := Lib.hid hc3
  have G3 := Lib.hid (gtrans G2.out g3)
  clear hc3 g3
  go_wp2_with fail
  refine (put32_spec _ _ _).mono ?_
  rintro e w4 ⟨rfl, b4⟩
  have hps : (put32v n b).size ≤ 4 := by rw [put32v, strOfNums_size]; cases b <;> simp [put16l]
  have C4 := Lib.hid (C3.out.below b4)
  have G4 := Lib.hid (gtrans G3.out (gbelow b4 _))
  clear b4
  go_wp2_with fail
  have hL := listAt_lit AnyI w4 [0, 1, 2, 3, -1, 9223372036854775807] (fun _ _ => trivial) 3
  refine (pickInt_any AnyI _ a len cap _ w4.heap.size 6 _ (C4.out.alloc _) hL (Nat.ne_of_gt C4.out.lt) (by omega) (by omega)).mono ?_
  rintro e w5 ⟨z, hz, rfl, hc5, g5⟩
  have C5 := Lib.hid hc5
  have G5 := Lib.hid (gtrans G4.out (gtrans (galloc _ _ _) g5))
  clear hc5 g5 hL hz
  go_wp2_with fail
  refine (once_any _ a len cap _ _ _ C5.out (by omega) (by omega)).mono ?_
  rintro e w6 ⟨b', rfl, hc6, g6⟩
  have G6 := Lib.hid (gtrans G5.out g6)
  clear hc6 g6
  go_wp2_with fail
  go_ret3
  refine ⟨_, z, b', ?_, rfl, below_of_g B1.out (Nat.le_refl _) G6.out⟩
  rw [ByteArray.size_append]
  have : (⟨#[97, 98]⟩ : ByteArray).size = 2 := rfl
  omega

theorem big_any (a : Option Addr) (len cap : Nat) (w : World) : Calls Try.prog 20 #[.slice a len cap] w fun e w' => e = .returned (.bool (decide (1048576 < (len : Int)))) ∧ w = w' := by
  go_enter Try.func20, Try.ntmps20
  go_wp2
  go_ret
  exact ⟨rfl, rfl⟩

theorem btrans {a b c : World} (h : Below a.heap.size a b) (k : Below b.heap.size b c) : Below a.heap.size a c := h.trans (k.mono h.size)

set_option maxRecDepth 100000 in
theorem words_law (a : Option Addr) (len cap : Nat) (w : World) (hC : len ≤ 1048576 → CodeIn w a len) :
    Calls Try.prog 7 #[.slice a len cap] w fun e w' => e = .returned (.bool true) ∧ Below w.heap.size w w' := by
  by_cases hb : 1048576 < (len : Int)
  · have hd : decide (1048576 < (len : Int)) = true := by simpa using hb
    clear hC
    go_enter Try.func7, Try.ntmps7
    go_wp2_with fail
    refine (big_any _ _ _ _).mono ?_
    rintro e w1 ⟨rfl, rfl⟩
    go_wp2_with fail
    go_ret
    exact ⟨rfl, Below.refl _ _⟩
  · have hd : decide (1048576 < (len : Int)) = false := by simpa using hb
    have HC := Lib.hid (hC (by omega))
    clear hC
    go_enter Try.func7, Try.ntmps7
    go_wp2_with fail
    refine (big_any _ _ _ _).mono ?_
    rintro e w0 ⟨rfl, rfl⟩
    go_wp2_with fail
    refine (drawPut16 _ _ _ _ HC.out).mono ?_
    rintro e w1 ⟨n, high, hn, rfl, b1⟩
    have B1 := Lib.hid b1
    clear b1 hn
    go_wp2_with fail
    refine (drawPut32 _ _ _ _ (HC.out.below B1.out)).mono ?_
    rintro e w2 ⟨m, order, hm, rfl, b2⟩
    have B2 := Lib.hid (btrans B1.out b2)
    clear b2 hm
    go_wp2_with fail
    refine (drawGet16 _ _ _ _ (HC.out.below B2.out)).mono ?_
    rintro e w3 ⟨s, i, h, hs, rfl, b3⟩
    have B3 := Lib.hid (btrans B2.out b3)
    clear b3
    go_wp2_with fail
    refine (drawGet32 _ _ _ _ (HC.out.below B3.out)).mono ?_
    rintro e w4 ⟨t, k, g, ht, rfl, b4⟩
    have B4 := Lib.hid (btrans B3.out b4)
    clear b4
    go_wp2_with fail
    refine (put16_impl _ _ _).mono ?_
    rintro e w5 ⟨rfl, b5⟩
    have B5 := Lib.hid (btrans B4.out b5)
    clear b5
    go_wp2_with fail
    refine (put32_impl _ _ _).mono ?_
    rintro e w6 ⟨rfl, b6⟩
    have B6 := Lib.hid (btrans B5.out b6)
    clear b6
    go_wp2_with fail
    refine (put16_spec _ _ _).mono ?_
    rintro e w7 ⟨rfl, b7⟩
    have B7 := Lib.hid (btrans B6.out b7)
    clear b7
    go_wp2_with fail
    refine (put32_spec _ _ _).mono ?_
    rintro e w8 ⟨rfl, b8⟩
    have B8 := Lib.hid (btrans B7.out b8)
    clear b8
    go_wp2_with fail
    refine (get16_impl _ _ _ _ (by omega)).mono ?_
    rintro e w9 ⟨rfl, q9, rfl⟩
    go_wp2_with fail
    refine (get16_spec _ _ _ _ (by omega)).mono ?_
    rintro e w10 ⟨rfl, q10, rfl⟩
    have hz1 : (get16v s i h != get16v s i h) = false := by simp
    have hz2 : (get32v t k g != get32v t k g) = false := by simp
    go_wp2_with fail
    refine (get32_impl _ _ _ _ (by omega)).mono ?_
    rintro e w11 ⟨rfl, q11, rfl⟩
    go_wp2_with fail
    refine (get32_spec _ _ _ _ (by omega)).mono ?_
    rintro e w12 ⟨rfl, q12, rfl⟩
    have c16 := fun w => get16_impl (put16v n high) 0 high w (by have := put16v_size n high; omega)
    have c32 := fun w => get32_impl (put32v m order) 0 order w (by have : (put32v m order).size ≤ 4 := by { rw [put32v, strOfNums_size]; cases order <;> simp [put16l] }; omega)
    rw [get16_put16] at c16
    rw [get32_put32] at c32
    have C16 := Lib.hid c16
    have C32 := Lib.hid c32
    clear c16 c32
    have hand1 : bits BinOp.and IntKind.i64 n 65535 = n % 65536 := i64_and65535 n
    have hand2 : bits BinOp.and IntKind.i64 m 4294967295 = m % 4294967296 := and32 m
    go_wp2_with fail
    refine (C16.out _).mono ?_
    rintro e w13 ⟨rfl, q13, rfl⟩
    go_wp2_with fail
    refine (C32.out _).mono ?_
    rintro e w14 ⟨rfl, q14, rfl⟩
    go_wp2_with fail
    go_ret
    exact ⟨rfl, below_drewN B8.out _⟩
end Go.Proofs.Ytndgppabfdeecab
