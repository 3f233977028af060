/- Texts joined: SplitMath, Clone, Split, UserI, EntOkI, Fits, Cut, Fill, HeadMath, PutF, PutHeadI, FlagK, Pad. -/
import Derived.Test.YtkpdeeembnjmnabGreatDoorShelf
import Derived.Deep.RegionHeld3
import Derived.WalkSmall
import Derived.IntWalk
import Derived.Lib.Repeat
import Derived.Lib.Bytealg
import Derived.Test.YtkpdeeembnjmnabGreatDoorJU2
/- Where Split divides a path: plain lists only. -/
namespace Go.Proofs.YtkpdeeembnjmnabGreatDoor
open Go.RowKit Go.Shelf

theorem idx_hit (l : List UInt8) : ∀ i : Nat, Lib.indexByte l 47 = i → i < l.length ∧ l[i]? = some 47 ∧ ∀ j, j < i → l[j]? ≠ some 47 := by
  induction l with
  | nil => intro i h; simp [Lib.indexByte] at h
  | cons b r ih =>
    intro i h
    by_cases hb : b = 47
    · subst hb
      simp [Lib.indexByte] at h
      obtain rfl : i = 0 := by omega
      exact ⟨by simp, by simp, fun j hj => absurd hj (by omega)⟩
    · have hb' : (b == 47) = false := by simpa using hb
      rw [Lib.indexByte, hb'] at h
      by_cases hr : Lib.indexByte r 47 = -1
      · rw [if_neg (by simp), if_pos (by simpa using hr)] at h; omega
      · rw [if_neg (by simp), if_neg (by simpa using hr)] at h
        obtain ⟨j, rfl⟩ : ∃ j, i = j + 1 := ⟨i - 1, by have g := Lib.indexByte_ge r 47; omega⟩
        obtain ⟨h1, h2, h3⟩ := ih j (by omega)
        refine ⟨by simp; omega, by simpa using h2, ?_⟩
        intro k hk
        cases k with
        | zero => simpa using hb
        | succ k => simpa using h3 k (by omega)
theorem partsL_tail (b : List UInt8) (hb : Lib.indexByte b 47 = -1) (a : List UInt8) : ∀ cur, ∃ x ∈ partsL cur (a ++ b), b.length ≤ x.length := by
  induction a with
  | nil => intro cur; exact ⟨cur ++ b, by rw [List.nil_append, partsL_miss _ _ hb]; simp, by simp⟩
  | cons c r ih =>
    intro cur
    by_cases hc : c = 47
    · obtain ⟨x, hx, hl⟩ := ih []
      exact ⟨x, by simp only [List.cons_append, partsL, hc, if_true]; exact List.mem_cons_of_mem _ hx, hl⟩
    · obtain ⟨x, hx, hl⟩ := ih (cur ++ [c])
      exact ⟨x, by simp only [List.cons_append, partsL, hc, if_false]; exact hx, hl⟩
theorem part_60 {s x : ByteArray} (hp : pathOkv s = true) (hx : x ∈ partsv s) : x.size ≤ 60 := by
  simp only [pathOkv, Bool.and_eq_true, List.all_eq_true] at hp
  have := hp.2 x hx
  simp only [partOkv, Bool.and_eq_true, decide_eq_true_eq] at this
  omega
theorem path_200 {s : ByteArray} (hp : pathOkv s = true) : s.size ≤ 200 := by
  simp only [pathOkv, Bool.and_eq_true, decide_eq_true_eq] at hp
  exact hp.1
/-- Where the first slash stands after which at most 100 bytes remain. -/
def slashv (s : ByteArray) : Nat := s.size - 101 + (Lib.indexByte (s.data.toList.drop (s.size - 101)) 47).toNat
theorem slash_there {s : ByteArray} (hp : pathOkv s = true) (h : 100 < s.size) :
    Lib.indexByte (s.data.toList.drop (s.size - 101)) 47 = ((slashv s - (s.size - 101) : Nat) : Int) ∧ s.size - 101 ≤ slashv s ∧ slashv s < s.size ∧ (∀ q : slashv s < s.size, s[slashv s] = 47) ∧ ∀ j (q : j < s.size), s.size - 101 ≤ j → j < slashv s → ¬ s[j] = 47 := by
  have hge := Lib.indexByte_ge (s.data.toList.drop (s.size - 101)) 47
  have hne : Lib.indexByte (s.data.toList.drop (s.size - 101)) 47 ≠ -1 := by
    intro hm
    obtain ⟨x, hx, hl⟩ := partsL_tail _ hm (s.data.toList.take (s.size - 101)) []
    rw [List.take_append_drop] at hx
    have h1 := part_60 hp (List.mem_map.2 ⟨x, hx, rfl⟩)
    rw [baL_size] at h1
    simp at hl
    omega
  obtain ⟨i, hi⟩ := Int.eq_ofNat_of_zero_le (show 0 ≤ Lib.indexByte (s.data.toList.drop (s.size - 101)) 47 by omega)
  have hs : slashv s = s.size - 101 + i := by rw [slashv, hi]; rfl
  obtain ⟨a, b, c⟩ := idx_hit _ i hi
  have hlt : s.size - 101 + i < s.size := by simp at a; omega
  refine ⟨by rw [hi, hs]; congr 1; omega, by omega, by omega, ?_, ?_⟩
  · intro q
    rw [List.getElem?_drop] at b
    have e : s.data.toList[s.size - 101 + i]? = some s[s.size - 101 + i] := by
      rw [List.getElem?_eq_getElem (by simpa using hlt)]; rfl
    rw [e] at b
    simp only [hs]
    exact Option.some.inj b
  · intro j q hj hlt2
    have hc := c (j - (s.size - 101)) (by omega)
    rw [List.getElem?_drop, show s.size - 101 + (j - (s.size - 101)) = j from by omega] at hc
    intro e
    apply hc
    rw [List.getElem?_eq_getElem (by simpa using q)]
    exact congrArg some e

def splitOk (s : ByteArray) : Bool := pathOkv s && (decide (s.size ≤ 100) || decide (slashv s ≤ 155))
def splitP (s : ByteArray) : ByteArray := if splitOk s = true ∧ 100 < s.size then s.extract 0 (slashv s) else ⟨#[]⟩
def splitN (s : ByteArray) : ByteArray := if splitOk s = true then (if s.size ≤ 100 then s else s.extract (slashv s + 1) s.size) else ⟨#[]⟩
theorem split_no {s : ByteArray} (h : splitOk s = false) : splitP s = ⟨#[]⟩ ∧ splitN s = ⟨#[]⟩ := by simp [splitP, splitN, h]
theorem split_short {s : ByteArray} (h : pathOkv s = true) (hs : s.size ≤ 100) : splitOk s = true ∧ splitP s = ⟨#[]⟩ ∧ splitN s = s := by
  have h1 : splitOk s = true := by simp [splitOk, h, hs]
  exact ⟨h1, by simp [splitP]; intro _ h2; omega, by simp [splitN, h1, hs]⟩
theorem split_long {s : ByteArray} (h : pathOkv s = true) (hs : 100 < s.size) (hl : slashv s ≤ 155) : splitOk s = true ∧ splitP s = s.extract 0 (slashv s) ∧ splitN s = s.extract (slashv s + 1) s.size := by
  have h1 : splitOk s = true := by simp [splitOk, h, hl]
  exact ⟨h1, by rw [splitP, if_pos ⟨h1, hs⟩], by rw [splitN, if_pos h1, if_neg (by omega)]⟩
theorem split_far {s : ByteArray} (hs : 100 < s.size) (hl : ¬ slashv s ≤ 155) : splitOk s = false := by simp [splitOk, hl]; intro _; omega
theorem split_bad {s : ByteArray} (h : pathOkv s = false) : splitOk s = false := by simp [splitOk, h]
end Go.Proofs.YtkpdeeembnjmnabGreatDoor

/- Contract of strings.Clone: the same bytes. -/
namespace Go.Proofs.YtkpdeeembnjmnabGreatDoor
open Go.ChangeShapes Go.WideShapes Go.ChangeAt Go.RowKit

theorem clone_any (s : ByteArray) (w : World) (hs : s.size ≤ 281474976710656) :
    Calls Tryz.prog 70 #[.string s] w fun e w' => e = .returned (.string s) ∧ Below w.heap.size w w' := by
  go_enter Tryz.func70, Tryz.ntmps70
  go_wp2_with (go_at_call 95; refine (Tryz.stringslite_Clone _ _ hs).mono ?_; rintro e w' ⟨rfl, hb⟩)
  go_ret
  exact ⟨rfl, hb⟩
end Go.Proofs.YtkpdeeembnjmnabGreatDoor

/- Contracts of spec.Split and impl.Split. -/
namespace Go.Proofs.YtkpdeeembnjmnabGreatDoor
open Go.RowKit Go.Shelf

theorem ret_split {a b c d : ByteArray} {x y : Bool} (h1 : a = c) (h2 : b = d) (h3 : x = y) : Ending.returned (.tuple #[.string a, .string b, .bool x]) = .returned (.tuple #[.string c, .string d, .bool y]) := by rw [h1, h2, h3]
theorem bl_sp {w x w1 : World} (h1 : Below x.heap.size x w1) (os : x.os = w.os) (tape : x.tape = w.tape) (out : x.output = w.output) (hs : w.heap.size ≤ x.heap.size) (hb : ∀ k, k < w.heap.size → x.heap[k]? = w.heap[k]?) : Below w.heap.size w w1 :=
  ⟨h1.os.trans os, h1.tape.trans tape, h1.output.trans out, Nat.le_trans hs h1.size, fun k hk => (h1.block k (Nat.lt_of_lt_of_le hk hs)).trans (hb k hk)⟩
set_option maxHeartbeats 1600000 in
theorem split_spec (s : ByteArray) (w : World) (hs : s.size ≤ 4194304) :
    Calls Tryz.prog 48 #[.string s] w fun e w' => e = .returned (.tuple #[.string (splitP s), .string (splitN s), .bool (splitOk s)]) ∧ Below w.heap.size w w' := by
  have H1 := Lib.hid (fun w => pathOk_spec s w (by omega))
  cases hp : pathOkv s with
  | false =>
    have HO := Lib.hid (split_bad hp)
    have HE := Lib.hid (split_no HO.out)
    rw [hp] at H1
    clear hp
    generalize splitOk s = o at HO
    generalize splitP s = p at HE
    generalize splitN s = n at HE
    go_enter Tryz.func48, Tryz.ntmps48
    go_wp2_with fail
    refine (H1.out _).mono ?_
    rintro e w1 ⟨rfl, hb1⟩
    go_wp2_with fail
    go_ret3
    exact ⟨ret_split HE.out.1.symm HE.out.2.symm HO.out.symm, hb1⟩
  | true =>
    rw [hp] at H1
    by_cases h100 : (s.size : Int) ≤ 100
    · have HE := Lib.hid (split_short hp (by omega))
      clear hp
      generalize splitOk s = o at HE
      generalize splitP s = p at HE
      generalize splitN s = n at HE
      go_enter Tryz.func48, Tryz.ntmps48
      go_wp2_with fail
      refine (H1.out _).mono ?_
      rintro e w1 ⟨rfl, hb1⟩
      go_wp2_with fail
      go_ret3
      exact ⟨ret_split HE.out.2.1.symm HE.out.2.2.symm HE.out.1.symm, hb1⟩
    · obtain ⟨_, hge, hlt, hat, hno⟩ := slash_there hp (by omega)
      have HAT := Lib.hid hat
      have HNO := Lib.hid hno
      have HF := Lib.hid (fun h => split_far (s := s) (by omega) h)
      have HFN := Lib.hid (fun h => split_no (s := s) h)
      have HG := Lib.hid (fun h => split_long hp (by omega) h)
      clear hat hno hp
      generalize splitOk s = o at HF HG HFN
      generalize splitP s = p at HG HFN
      generalize splitN s = n at HG HFN
      generalize slashv s = sl at *
      go_enter Tryz.func48, Tryz.ntmps48
      go_wp2_with fail
      refine (H1.out _).mono ?_
      rintro e w1 ⟨rfl, hb1⟩
      have HB := Lib.hid hb1
      clear hb1
      go_wp2
      go_loop [5] (fun i => ∃ k : Nat, k ≤ sl ∧ i = .int .i64 k) (fun i => s.size - (intOf i).toNat)
      case atStart => exact ⟨0, Nat.zero_le _, rfl⟩
      case round =>
        obtain ⟨k, hk, rfl⟩ := hrel
        have hkk : k < s.size := by omega
        by_cases he : k = sl
        · subst he
          have hc : s[k] = 47 := HAT.out hkk
          have hc' : (((s[k].toNat : Nat) : Int) == 47) = true := by rw [hc]; rfl
          have q1 : (s.size : Int) - k - 1 ≤ 100 := by omega
          have c1 : (0 : Int) ≤ ↑k := by omega
          have c2 : (↑k : Int) ≤ ↑s.size := by omega
          have c3 : (0 : Int) ≤ ↑k + 1 := by omega
          have c4 : (↑k + 1 : Int) ≤ ↑s.size := by omega
          clear hc
          by_cases hf : (k : Int) ≤ 155
          · have HE := Lib.hid (HG.out (by omega))
            clear HG HF HFN HAT HNO
            go_wp2_with fail
            go_region
            go_wp2
            go_ret3
            exact ⟨ret_split HE.out.2.1.symm HE.out.2.2.symm HE.out.1.symm, ⟨HB.out.os, HB.out.tape, HB.out.output, HB.out.size, HB.out.block⟩⟩
          · have HO := Lib.hid (HF.out (by omega))
            have HE := Lib.hid (HFN.out HO.out)
            clear HG HF HFN HAT HNO
            go_wp2_with fail
            go_ret3
            exact ⟨ret_split HE.out.1.symm HE.out.2.symm HO.out.symm, HB.out⟩
        · by_cases hc : s[k] = 47
          · have hc' : (((s[k].toNat : Nat) : Int) == 47) = true := by rw [hc]; rfl
            have q1 : ¬ (s.size : Int) - k - 1 ≤ 100 := by
              intro h
              exact HNO.out k hkk (by omega) (by omega) hc
            clear hc HG HF HFN HAT HNO
            go_wp2_with fail
            go_round
            case rel => exact ⟨k + 1, by omega, by go_num⟩
            case measure => simp [intOf]; omega
          · have hc' : (((s[k].toNat : Nat) : Int) == 47) = false := by
              have : s[k].toNat ≠ 47 := fun e => hc (UInt8.toNat_inj.1 (by simpa using e))
              simp; omega
            clear hc HG HF HFN HAT HNO
            go_wp2_with fail
            go_round
            case rel => exact ⟨k + 1, by omega, by go_num⟩
            case measure => simp [intOf]; omega

set_option maxHeartbeats 1600000 in
theorem split_impl (s : ByteArray) (w : World) (hs : s.size ≤ 4194304) :
    Calls Tryz.prog 63 #[.string s] w fun e w' => e = .returned (.tuple #[.string (splitP s), .string (splitN s), .bool (splitOk s)]) ∧ Below w.heap.size w w' := by
  have H1 := Lib.hid (fun w => pathOk_impl s w (by omega))
  cases hp : pathOkv s with
  | false =>
    have HO := Lib.hid (split_bad hp)
    have HE := Lib.hid (split_no HO.out)
    rw [hp] at H1
    clear hp
    generalize splitOk s = o at HO
    generalize splitP s = p at HE
    generalize splitN s = n at HE
    go_enter Tryz.func63, Tryz.ntmps63
    go_wp2_with fail
    refine (H1.out _).mono ?_
    rintro e w1 ⟨rfl, hb1⟩
    go_wp2_with fail
    go_ret3
    exact ⟨ret_split HE.out.1.symm HE.out.2.symm HO.out.symm, hb1⟩
  | true =>
    rw [hp] at H1
    by_cases h100 : (s.size : Int) ≤ 100
    · have HE := Lib.hid (split_short hp (by omega))
      have HC := Lib.hid (fun w => clone_any s w (by omega))
      clear hp
      generalize splitOk s = o at HE
      generalize splitP s = p at HE
      generalize splitN s = n at HE
      go_enter Tryz.func63, Tryz.ntmps63
      go_wp2_with fail
      refine (H1.out _).mono ?_
      rintro e w1 ⟨rfl, hb1⟩
      go_wp2_with fail
      refine (HC.out _).mono ?_
      rintro e w2 ⟨rfl, hb2⟩
      go_wp2_with fail
      go_ret3
      exact ⟨ret_split HE.out.2.1.symm HE.out.2.2.symm HE.out.1.symm, hb1.trans (hb2.mono hb1.size)⟩
    · obtain ⟨hix, hge, hlt, -, -⟩ := slash_there hp (by omega)
      have HF := Lib.hid (fun h => split_far (s := s) (by omega) h)
      have HFN := Lib.hid (fun h => split_no (s := s) h)
      have HG := Lib.hid (fun h => split_long hp (by omega) h)
      have HX := Lib.hid (fun w => Tryz.strings_IndexByte (s.extract (s.size - 101) s.size) 47 w)
      have ed : (s.extract (s.size - 101) s.size).data.toList = s.data.toList.drop (s.size - 101) := by
        simp
        rw [List.take_of_length_le (by simp)]
      rw [ed, show (47 : Int).toNat.toUInt8 = 47 from rfl, hix] at HX
      have HC := Lib.hid (fun a b w => clone_any (s.extract a b) w (by rw [ByteArray.size_extract]; omega))
      clear hix hp ed
      generalize splitOk s = o at HF HG HFN
      generalize splitP s = p at HG HFN
      generalize splitN s = n at HG HFN
      generalize slashv s = sl at *
      obtain ⟨f, hf⟩ : ∃ f : Nat, s.size = f + 101 := ⟨s.size - 101, by omega⟩
      rw [show s.size - 101 = f from by omega] at HX hge
      have c0 : (s.size : Int) - 100 - 1 = (f : Int) := by omega
      have c1 : (0 : Int) ≤ ↑f := by omega
      have c2 : (↑f : Int) ≤ ↑s.size := by omega
      have c5 : (f : Int) + ((sl - f : Nat) : Int) = (sl : Int) := by omega
      have HS := Lib.hid hf
      clear hf
      go_enter Tryz.func63, Tryz.ntmps63
      go_wp2_with fail
      refine (H1.out _).mono ?_
      rintro e w1 ⟨rfl, hb1⟩
      have HB := Lib.hid hb1
      clear hb1
      go_wp2_with fail
      refine (HX.out _).mono ?_
      rintro e w2 ⟨rfl, rfl⟩
      by_cases hq : (sl : Int) ≤ 155
      · have HE := Lib.hid (HG.out (by omega))
        clear HG HF HFN
        go_wp2_with fail
        have c7 : (0 : Int) ≤ ↑sl + 1 := by omega
        have c8 : (↑sl + 1 : Int) ≤ ↑s.size := by omega
        have c6 : (↑sl : Int) ≤ ↑s.size := by omega
        have c9 : IntKind.i64.wrap ((sl : Int) + 1) = (sl : Int) + 1 := IntWalk.i64_in _ (by omega)
        go_region_held3 (fun _ => True) (trivial) (first | (go_at_call 70; refine (HC.out _ _ _).mono ?_; rintro e w3 ⟨rfl, hb⟩; replace HB := Lib.hid (bl_sp hb HB.out.os HB.out.tape HB.out.output HB.out.size HB.out.block); clear hb))
        go_wp2
        go_ret3
        exact ⟨ret_split HE.out.2.1.symm HE.out.2.2.symm HE.out.1.symm, HB.out⟩
      · have HO := Lib.hid (HF.out (by omega))
        have HE := Lib.hid (HFN.out HO.out)
        clear HG HF HFN
        go_wp2_with fail
        go_ret3
        exact ⟨ret_split HE.out.1.symm HE.out.2.symm HO.out.symm, HB.out⟩
end Go.Proofs.YtkpdeeembnjmnabGreatDoor

/- Contracts of impl.upTo, impl.userOk, impl.symLinkOk. -/
namespace Go.Proofs.YtkpdeeembnjmnabGreatDoor
open Go.ChangeShapes Go.WideShapes Go.ChangeAt Go.RowKit

theorem upTo_any (x b : Int) (w : World) : Calls Tryz.prog 62 #[.int .i64 x, .int .i64 b] w fun e w' => e = .returned (.bool (inB x 0 b)) ∧ w = w' := by
  by_cases h1 : 0 ≤ x
  · by_cases h2 : x ≤ b
    · go_enter Tryz.func62, Tryz.ntmps62
      go_wp2
      go_ret
      exact ⟨by simp [inB]; omega, rfl⟩
    · go_enter Tryz.func62, Tryz.ntmps62
      go_wp2
      go_ret
      exact ⟨by simp [inB]; omega, rfl⟩
  · go_enter Tryz.func62, Tryz.ntmps62
    go_wp2
    go_ret
    exact ⟨by simp [inB]; omega, rfl⟩
theorem whob_t {c : UInt8} (h : whob c = true) : ((97 : Int) ≤ ((c.toNat : Nat) : Int) ∧ ((c.toNat : Nat) : Int) ≤ 122) ∨ ((48 : Int) ≤ ((c.toNat : Nat) : Int) ∧ ((c.toNat : Nat) : Int) ≤ 57) ∨ ((c.toNat : Nat) : Int) = 95 := by
  simp [whob] at h; omega
theorem whob_f {c : UInt8} (h : whob c = false) : ((c.toNat : Nat) : Int) < 48 ∨ ((57 : Int) < ((c.toNat : Nat) : Int) ∧ ((c.toNat : Nat) : Int) < 97 ∧ ¬ ((c.toNat : Nat) : Int) = 95) ∨ (122 : Int) < ((c.toNat : Nat) : Int) := by
  simp [whob] at h; omega
set_option maxHeartbeats 800000 in
theorem userOk_impl (s : ByteArray) (w : World) (hs : s.size ≤ 4194304) :
    Calls Tryz.prog 127 #[.string s] w fun e w' => e = .returned (.bool (whov s)) ∧ Below w.heap.size w w' := by
  have HB : Hid (∀ k, (h : k < s.size) → whob s[k] = false → whov s = false) := Lib.hid (fun k h hc => by rw [whov, allB_bad h hc]; rfl)
  have HD : Hid (AllB whob s s.size → s.size ≤ 20 → whov s = true) := Lib.hid (fun h h2 => by rw [whov, h.done, decide_eq_true h2]; rfl)
  have HZ : Hid (20 < s.size → whov s = false) := Lib.hid (fun h => by rw [whov, decide_eq_false (by omega)]; simp)
  generalize whov s = r at HB HD HZ
  by_cases hz : 20 < s.size
  · have hz2 : (20 : Int) < (s.size : Int) := by omega
    have HF := Lib.hid (HZ.out hz)
    go_enter Tryz.func127, Tryz.ntmps127
    go_wp2_with fail
    go_ret
    exact ⟨ret_bool HF.out.symm, Below.refl _ _⟩
  have hz2 : ¬ (20 : Int) < (s.size : Int) := by omega
  have hz3 : s.size ≤ 20 := by omega
  clear HZ
  go_enter Tryz.func127, Tryz.ntmps127
  go_wp2_with fail
  go_loopw [3, 4, 10] (fun _ _ u wr => ∃ i : Nat, u = .int .i64 i ∧ i ≤ s.size ∧ AllB whob s i ∧ Below w.heap.size w wr) (fun _ _ u _ => s.size - (intOf u).toNat)
  case atStart => exact ⟨0, rfl, Nat.zero_le _, AllB.start _ _, Below.refl _ _⟩
  case round =>
    obtain ⟨i, rfl, hi, hr, hb⟩ := hrel
    have HR := Lib.hid hr
    have B := Lib.hid hb
    clear hr hb
    by_cases hlt : i < s.size
    · have hlt2 : (i : Int) < (s.size : Int) := by omega
      have h8 := (s[i]).toNat_lt
      cases hc : whob s[i] with
      | false =>
        have HF : Hid (r = false) := Lib.hid (HB.out i hlt hc)
        have hq := whob_f hc
        clear hc HB HD HR
        generalize hx : ((s[i].toNat : Nat) : Int) = x at hq h8
        have HX := Lib.hid hx
        rcases hq with h | ⟨h, h2, h3⟩ | h
        · have a1 : ¬ (97 : Int) ≤ x := by omega
          have a3 : ¬ (48 : Int) ≤ x := by omega
          have a5 : ¬ x = 95 := by omega
          rw [← hx] at a1 a3 a5
          have a6 : (!(((s[i].toNat : Nat) : Int) == 95)) = true := by simpa using a5
          clear hx h HX a5
          go_wp2_with fail
          go_ret
          exact ⟨ret_bool HF.out.symm, B.out⟩
        · have a1 : ¬ (97 : Int) ≤ x := by omega
          have a3 : (48 : Int) ≤ x := by omega
          have a4 : ¬ x ≤ 57 := by omega
          rw [← hx] at a1 a3 a4 h3
          have a6 : (!(((s[i].toNat : Nat) : Int) == 95)) = true := by simpa using h3
          clear hx h HX h3 h2
          go_wp2_with fail
          go_ret
          exact ⟨ret_bool HF.out.symm, B.out⟩
        · have a1 : (97 : Int) ≤ x := by omega
          have a2 : ¬ x ≤ 122 := by omega
          have a3 : (48 : Int) ≤ x := by omega
          have a4 : ¬ x ≤ 57 := by omega
          have a5 : ¬ x = 95 := by omega
          rw [← hx] at a1 a2 a3 a4 a5
          have a6 : (!(((s[i].toNat : Nat) : Int) == 95)) = true := by simpa using a5
          clear hx h HX a5
          go_wp2_with fail
          go_ret
          exact ⟨ret_bool HF.out.symm, B.out⟩
      | true =>
        have HS := Lib.hid (HR.out.step hlt hc)
        have hq := whob_t hc
        clear hc HB HD HR
        by_cases a1 : (97 : Int) ≤ ((s[i].toNat : Nat) : Int)
        · have a2 : ((s[i].toNat : Nat) : Int) ≤ 122 := by omega
          clear hq
          go_wp2_with fail
          go_roundw
          case rel => exact ⟨i + 1, by go_num, by omega, HS.out, B.out⟩
          case measure => simp [intOf]; omega
        · by_cases a4 : ((s[i].toNat : Nat) : Int) ≤ 57
          · have a3 : (48 : Int) ≤ ((s[i].toNat : Nat) : Int) := by omega
            clear hq
            go_wp2_with fail
            go_roundw
            case rel => exact ⟨i + 1, by go_num, by omega, HS.out, B.out⟩
            case measure => simp [intOf]; omega
          · have a3 : (48 : Int) ≤ ((s[i].toNat : Nat) : Int) := by omega
            have a5 : ((s[i].toNat : Nat) : Int) = 95 := by omega
            clear hq
            go_wp2_with fail
            go_roundw
            case rel => exact ⟨i + 1, by go_num, by omega, HS.out, B.out⟩
            case measure => simp [intOf]; omega
    · obtain rfl : i = s.size := by omega
      have hlt2 : ¬ (s.size : Int) < (s.size : Int) := by omega
      have HF : Hid (r = true) := Lib.hid (HD.out HR.out hz3)
      go_wp2_with fail
      go_ret
      exact ⟨ret_bool HF.out.symm, B.out⟩
set_option maxHeartbeats 800000 in
theorem symLinkOk_impl (s : ByteArray) (w : World) (hs : s.size ≤ 4194304) :
    Calls Tryz.prog 111 #[.string s] w fun e w' => e = .returned (.bool (inB s.size 1 150 && signv s)) ∧ Below w.heap.size w w' := by
  have HB : Hid (∀ k, (h : k < s.size) → signb s[k] = false → signv s = false) := Lib.hid (fun k h hc => allB_bad h hc)
  have HD : Hid (AllB signb s s.size → signv s = true) := Lib.hid (fun h => h.done)
  generalize signv s = r at HB HD
  by_cases hz : (s.size : Int) < 1
  · have hq : inB (s.size : Int) 1 150 = false := inB_f (by omega)
    rw [hq]
    go_enter Tryz.func111, Tryz.ntmps111
    go_wp2_with fail
    go_ret
    exact ⟨rfl, Below.refl _ _⟩
  by_cases hz2 : (150 : Int) < (s.size : Int)
  · have hq : inB (s.size : Int) 1 150 = false := inB_f (by omega)
    rw [hq]
    go_enter Tryz.func111, Tryz.ntmps111
    go_wp2_with fail
    go_ret
    exact ⟨rfl, Below.refl _ _⟩
  have hq : inB (s.size : Int) 1 150 = true := inB_t (by omega)
  rw [hq, Bool.true_and]
  clear hq
  go_enter Tryz.func111, Tryz.ntmps111
  go_wp2_with fail
  go_loopw [3, 14] (fun _ u wr => ∃ i : Nat, u = .int .i64 i ∧ i ≤ s.size ∧ AllB signb s i ∧ Below w.heap.size w wr) (fun _ u _ => s.size - (intOf u).toNat)
  case atStart => exact ⟨0, rfl, Nat.zero_le _, AllB.start _ _, Below.refl _ _⟩
  case round =>
    obtain ⟨i, rfl, hi, hr, hb⟩ := hrel
    have HR := Lib.hid hr
    have B := Lib.hid hb
    clear hr hb
    by_cases hlt : i < s.size
    · have hlt2 : (i : Int) < (s.size : Int) := by omega
      have h8 := (s[i]).toNat_lt
      cases hc : signb s[i] with
      | false =>
        have HF : Hid (r = false) := Lib.hid (HB.out i hlt hc)
        have hq : ((s[i].toNat : Nat) : Int) < 33 ∨ (126 : Int) < ((s[i].toNat : Nat) : Int) := by simp [signb] at hc; omega
        clear hc HB HD HR
        by_cases a1 : ((s[i].toNat : Nat) : Int) < 33
        · clear hq
          go_wp2_with fail
          go_ret
          exact ⟨ret_bool HF.out.symm, B.out⟩
        · have a2 : (126 : Int) < ((s[i].toNat : Nat) : Int) := by omega
          clear hq
          go_wp2_with fail
          go_ret
          exact ⟨ret_bool HF.out.symm, B.out⟩
      | true =>
        have HS := Lib.hid (HR.out.step hlt hc)
        have a1 : ¬ ((s[i].toNat : Nat) : Int) < 33 := by simp [signb] at hc; omega
        have a2 : ¬ (126 : Int) < ((s[i].toNat : Nat) : Int) := by simp [signb] at hc; omega
        clear hc HB HD HR
        go_wp2_with fail
        go_roundw
        case rel => exact ⟨i + 1, by go_num, by omega, HS.out, B.out⟩
        case measure => simp [intOf]; omega
    · obtain rfl : i = s.size := by omega
      have hlt2 : ¬ (s.size : Int) < (s.size : Int) := by omega
      have HF : Hid (r = true) := Lib.hid (HD.out HR.out)
      go_wp2_with fail
      go_ret
      exact ⟨ret_bool HF.out.symm, B.out⟩
end Go.Proofs.YtkpdeeembnjmnabGreatDoor

/- Contract of impl.EntryOk: the four kinds and what they share. -/
namespace Go.Proofs.YtkpdeeembnjmnabGreatDoor
open Go.ChangeShapes Go.WideShapes Go.ChangeAt Go.RowKit Go.Deep

/-- What all kinds ask. -/
def fieldsv (e : Ent) : Bool := pathOkv e.path && inB e.mode 0 4095 && inB e.uid 0 4294967295 && inB e.gid 0 4294967295 && inB e.time 0 99999999999 && whov e.user && whov e.group
set_option maxHeartbeats 3200000 in
theorem fieldsOk_impl (k : Int) (p l : ByteArray) (m u g t : Int) (us gr b : ByteArray) (w : World) (hp : p.size ≤ 4194304) (hus : us.size ≤ 4194304) (hgr : gr.size ≤ 4194304) :
    Calls Tryz.prog 110 #[.agg #[.int .i64 k, .string p, .string l, .int .i64 m, .int .i64 u, .int .i64 g, .int .i64 t, .string us, .string gr, .string b]] w fun e w' => e = .returned (.bool (fieldsv ⟨k, p, l, m, u, g, t, us, gr, b⟩)) ∧ Below w.heap.size w w' := by
  have H1 := Lib.hid (fun w => pathOk_impl p w (by omega))
  have H2 := Lib.hid (fun w => upTo_any m 4095 w)
  have H3 := Lib.hid (fun w => upTo_any u 4294967295 w)
  have H4 := Lib.hid (fun w => upTo_any g 4294967295 w)
  have H5 := Lib.hid (fun w => upTo_any t 99999999999 w)
  have H6 := Lib.hid (fun w => userOk_impl us w hus)
  have H7 := Lib.hid (fun w => userOk_impl gr w hgr)
  have HE : Hid (fieldsv ⟨k, p, l, m, u, g, t, us, gr, b⟩ = (pathOkv p && inB m 0 4095 && inB u 0 4294967295 && inB g 0 4294967295 && inB t 0 99999999999 && whov us && whov gr)) := Lib.hid rfl
  generalize fieldsv ⟨k, p, l, m, u, g, t, us, gr, b⟩ = r at HE
  generalize pathOkv p = b1 at H1 HE
  generalize inB m 0 4095 = b2 at H2 HE
  generalize inB u 0 4294967295 = b3 at H3 HE
  generalize inB g 0 4294967295 = b4 at H4 HE
  generalize inB t 0 99999999999 = b5 at H5 HE
  generalize whov us = b6 at H6 HE
  generalize whov gr = b7 at H7 HE
  clear hp hus hgr
  go_enter Tryz.func110, Tryz.ntmps110
  go_wp2_with fail
  refine (H1.out _).mono ?_
  rintro e w1 ⟨rfl, hb⟩
  obtain ⟨k1, bb, z1⟩ := one_new (e1 := ⟨k, p, l, m, u, g, t, us, gr, b⟩) hb
  have E := Lib.hid k1
  have B := Lib.hid bb
  clear hb k1 bb
  obtain ⟨c0, c1, c2, c3, c4, c5, c6, c7, c8, c9⟩ := E.out.zero
  cases b1 with
  | false =>
    go_wp2_with fail
    go_ret
    exact ⟨ret_bool (by rw [HE.out]; simp), B.out⟩
  | true =>
    go_wp2_with fail
    refine (H2.out _).mono ?_
    rintro e _ ⟨rfl, rfl⟩
    cases b2 with
    | false =>
      go_wp2_with fail
      go_ret
      exact ⟨ret_bool (by rw [HE.out]; simp), B.out⟩
    | true =>
      go_wp2_with fail
      refine (H3.out _).mono ?_
      rintro e _ ⟨rfl, rfl⟩
      cases b3 with
      | false =>
        go_wp2_with fail
        go_ret
        exact ⟨ret_bool (by rw [HE.out]; simp), B.out⟩
      | true =>
        go_wp2_with fail
        refine (H4.out _).mono ?_
        rintro e _ ⟨rfl, rfl⟩
        cases b4 with
        | false =>
          go_wp2_with fail
          go_ret
          exact ⟨ret_bool (by rw [HE.out]; simp), B.out⟩
        | true =>
          go_wp2_with fail
          refine (H5.out _).mono ?_
          rintro e _ ⟨rfl, rfl⟩
          cases b5 with
          | false =>
            go_wp2_with fail
            go_ret
            exact ⟨ret_bool (by rw [HE.out]; simp), B.out⟩
          | true =>
            go_wp2_with fail
            refine (H6.out _).mono ?_
            rintro e w6 ⟨rfl, hb⟩
            replace E := Lib.hid (E.out.below hb (by omega))
            replace B := Lib.hid (btE B.out hb)
            replace z1 := Nat.le_trans z1 hb.size
            clear hb c0 c1 c2 c3 c4 c5 c6 c7 c8 c9
            obtain ⟨c0, c1, c2, c3, c4, c5, c6, c7, c8, c9⟩ := E.out.zero
            cases b6 with
            | false =>
              go_wp2_with fail
              go_ret
              exact ⟨ret_bool (by rw [HE.out]; simp), B.out⟩
            | true =>
              go_wp2_with fail
              refine (H7.out _).mono ?_
              rintro e w7 ⟨rfl, hb⟩
              replace E := Lib.hid (E.out.below hb (by omega))
              replace B := Lib.hid (btE B.out hb)
              replace z1 := Nat.le_trans z1 hb.size
              clear hb c0 c1 c2 c3 c4 c5 c6 c7 c8 c9
              obtain ⟨c0, c1, c2, c3, c4, c5, c6, c7, c8, c9⟩ := E.out.zero
              cases b7 with
              | false =>
                go_wp2_with fail
                go_ret
                exact ⟨ret_bool (by rw [HE.out]; simp), B.out⟩
              | true =>
                go_wp2_with fail
                go_ret
                exact ⟨ret_bool (by rw [HE.out]; simp), B.out⟩
set_option maxHeartbeats 3200000 in
theorem fileOk_impl (k : Int) (p l : ByteArray) (m u g t : Int) (us gr b : ByteArray) (w : World) (hp : p.size ≤ 4194304) (hus : us.size ≤ 4194304) (hgr : gr.size ≤ 4194304) :
    Calls Tryz.prog 88 #[.agg #[.int .i64 k, .string p, .string l, .int .i64 m, .int .i64 u, .int .i64 g, .int .i64 t, .string us, .string gr, .string b]] w fun e w' => e = .returned (.bool (fieldsv ⟨k, p, l, m, u, g, t, us, gr, b⟩ && (decide (l.size = 0) && decide (b.size ≤ 3000)))) ∧ Below w.heap.size w w' := by
  have H1 := Lib.hid (fun w => fieldsOk_impl k p l m u g t us gr b w hp hus hgr)
  generalize fieldsv ⟨k, p, l, m, u, g, t, us, gr, b⟩ = b1 at H1 ⊢
  go_enter Tryz.func88, Tryz.ntmps88
  go_wp2_with fail
  refine (H1.out _).mono ?_
  rintro e w1 ⟨rfl, hb⟩
  obtain ⟨k1, bb, z1⟩ := one_new (e1 := ⟨k, p, l, m, u, g, t, us, gr, b⟩) hb
  have E := Lib.hid k1
  have B := Lib.hid bb
  clear hb k1 bb
  obtain ⟨c0, c1, c2, c3, c4, c5, c6, c7, c8, c9⟩ := E.out.zero
  cases b1 with
  | false =>
    go_wp2_with fail
    go_ret
    exact ⟨ret_bool (by simp), B.out⟩
  | true =>
    by_cases ql : l.size = 0
    · have ql2 := empty_t ql
      by_cases qb : b.size ≤ 3000
      · have qb2 : (b.size : Int) ≤ 3000 := by omega
        go_wp2_with fail
        go_ret
        exact ⟨ret_bool (by simp [ql, qb]), B.out⟩
      · have qb2 : ¬ (b.size : Int) ≤ 3000 := by omega
        go_wp2_with fail
        go_ret
        exact ⟨ret_bool (by rw [decide_eq_false qb]; simp; try omega), B.out⟩
    · have ql2 := empty_f ql
      go_wp2_with fail
      go_ret
      exact ⟨ret_bool (by simp [ql]), B.out⟩
set_option maxHeartbeats 3200000 in
theorem dirOk_impl (k : Int) (p l : ByteArray) (m u g t : Int) (us gr b : ByteArray) (w : World) (hp : p.size ≤ 4194304) (hus : us.size ≤ 4194304) (hgr : gr.size ≤ 4194304) :
    Calls Tryz.prog 89 #[.agg #[.int .i64 k, .string p, .string l, .int .i64 m, .int .i64 u, .int .i64 g, .int .i64 t, .string us, .string gr, .string b]] w fun e w' => e = .returned (.bool (fieldsv ⟨k, p, l, m, u, g, t, us, gr, b⟩ && (decide (l.size = 0) && decide (b.size = 0)))) ∧ Below w.heap.size w w' := by
  have H1 := Lib.hid (fun w => fieldsOk_impl k p l m u g t us gr b w hp hus hgr)
  generalize fieldsv ⟨k, p, l, m, u, g, t, us, gr, b⟩ = b1 at H1 ⊢
  go_enter Tryz.func89, Tryz.ntmps89
  go_wp2_with fail
  refine (H1.out _).mono ?_
  rintro e w1 ⟨rfl, hb⟩
  obtain ⟨k1, bb, z1⟩ := one_new (e1 := ⟨k, p, l, m, u, g, t, us, gr, b⟩) hb
  have E := Lib.hid k1
  have B := Lib.hid bb
  clear hb k1 bb
  obtain ⟨c0, c1, c2, c3, c4, c5, c6, c7, c8, c9⟩ := E.out.zero
  cases b1 with
  | false =>
    go_wp2_with fail
    go_ret
    exact ⟨ret_bool (by simp), B.out⟩
  | true =>
    by_cases ql : l.size = 0
    · have ql2 := empty_t ql
      by_cases qb : b.size = 0
      · have qb2 := empty_t qb
        go_wp2_with fail
        go_ret
        exact ⟨ret_bool (by simp [ql, qb]), B.out⟩
      · have qb2 := empty_f qb
        go_wp2_with fail
        go_ret
        exact ⟨ret_bool (by simp [qb]), B.out⟩
    · have ql2 := empty_f ql
      go_wp2_with fail
      go_ret
      exact ⟨ret_bool (by simp [ql]), B.out⟩
set_option maxHeartbeats 3200000 in
theorem symOk_impl (k : Int) (p l : ByteArray) (m u g t : Int) (us gr b : ByteArray) (w : World) (hp : p.size ≤ 4194304) (hl : l.size ≤ 4194304) (hus : us.size ≤ 4194304) (hgr : gr.size ≤ 4194304) :
    Calls Tryz.prog 90 #[.agg #[.int .i64 k, .string p, .string l, .int .i64 m, .int .i64 u, .int .i64 g, .int .i64 t, .string us, .string gr, .string b]] w fun e w' => e = .returned (.bool (fieldsv ⟨k, p, l, m, u, g, t, us, gr, b⟩ && (inB l.size 1 150 && signv l && decide (b.size = 0)))) ∧ Below w.heap.size w w' := by
  have H1 := Lib.hid (fun w => fieldsOk_impl k p l m u g t us gr b w hp hus hgr)
  have H2 := Lib.hid (fun w => symLinkOk_impl l w hl)
  generalize (inB (l.size : Int) 1 150 && signv l) = b2 at H2 ⊢
  generalize fieldsv ⟨k, p, l, m, u, g, t, us, gr, b⟩ = b1 at H1 ⊢
  go_enter Tryz.func90, Tryz.ntmps90
  go_wp2_with fail
  refine (H1.out _).mono ?_
  rintro e w1 ⟨rfl, hb⟩
  obtain ⟨k1, bb, z1⟩ := one_new (e1 := ⟨k, p, l, m, u, g, t, us, gr, b⟩) hb
  have E := Lib.hid k1
  have B := Lib.hid bb
  clear hb k1 bb
  obtain ⟨c0, c1, c2, c3, c4, c5, c6, c7, c8, c9⟩ := E.out.zero
  cases b1 with
  | false =>
    go_wp2_with fail
    go_ret
    exact ⟨ret_bool (by simp), B.out⟩
  | true =>
    go_wp2_with fail
    refine (H2.out _).mono ?_
    rintro e w2 ⟨rfl, hb⟩
    replace E := Lib.hid (E.out.below hb (by omega))
    replace B := Lib.hid (btE B.out hb)
    replace z1 := Nat.le_trans z1 hb.size
    clear hb c0 c1 c2 c3 c4 c5 c6 c7 c8 c9
    obtain ⟨c0, c1, c2, c3, c4, c5, c6, c7, c8, c9⟩ := E.out.zero
    cases b2 with
    | false =>
      go_wp2_with fail
      go_ret
      exact ⟨ret_bool (by simp), B.out⟩
    | true =>
      by_cases qb : b.size = 0
      · have qb2 := empty_t qb
        go_wp2_with fail
        go_ret
        exact ⟨ret_bool (by simp [qb]), B.out⟩
      · have qb2 := empty_f qb
        go_wp2_with fail
        go_ret
        exact ⟨ret_bool (by simp [qb]), B.out⟩
set_option maxHeartbeats 3200000 in
theorem hardOk_impl (k : Int) (p l : ByteArray) (m u g t : Int) (us gr b : ByteArray) (w : World) (hp : p.size ≤ 4194304) (hl : l.size ≤ 4194304) (hus : us.size ≤ 4194304) (hgr : gr.size ≤ 4194304) :
    Calls Tryz.prog 91 #[.agg #[.int .i64 k, .string p, .string l, .int .i64 m, .int .i64 u, .int .i64 g, .int .i64 t, .string us, .string gr, .string b]] w fun e w' => e = .returned (.bool (fieldsv ⟨k, p, l, m, u, g, t, us, gr, b⟩ && (pathOkv l && decide (l ≠ p) && decide (b.size = 0)))) ∧ Below w.heap.size w w' := by
  have H1 := Lib.hid (fun w => fieldsOk_impl k p l m u g t us gr b w hp hus hgr)
  have H2 := Lib.hid (fun w => pathOk_impl l w (by omega))
  generalize pathOkv l = b2 at H2 ⊢
  generalize fieldsv ⟨k, p, l, m, u, g, t, us, gr, b⟩ = b1 at H1 ⊢
  go_enter Tryz.func91, Tryz.ntmps91
  go_wp2_with fail
  refine (H1.out _).mono ?_
  rintro e w1 ⟨rfl, hb⟩
  obtain ⟨k1, bb, z1⟩ := one_new (e1 := ⟨k, p, l, m, u, g, t, us, gr, b⟩) hb
  have E := Lib.hid k1
  have B := Lib.hid bb
  clear hb k1 bb
  obtain ⟨c0, c1, c2, c3, c4, c5, c6, c7, c8, c9⟩ := E.out.zero
  cases b1 with
  | false =>
    go_wp2_with fail
    go_ret
    exact ⟨ret_bool (by simp), B.out⟩
  | true =>
    go_wp2_with fail
    refine (H2.out _).mono ?_
    rintro e w2 ⟨rfl, hb⟩
    replace E := Lib.hid (E.out.below hb (by omega))
    replace B := Lib.hid (btE B.out hb)
    replace z1 := Nat.le_trans z1 hb.size
    clear hb c0 c1 c2 c3 c4 c5 c6 c7 c8 c9
    obtain ⟨c0, c1, c2, c3, c4, c5, c6, c7, c8, c9⟩ := E.out.zero
    cases b2 with
    | false =>
      go_wp2_with fail
      go_ret
      exact ⟨ret_bool (by simp), B.out⟩
    | true =>
      by_cases ql : l = p
      · have ql2 := baE_eq ql
        go_wp2_with fail
        go_ret
        exact ⟨ret_bool (by simp [ql]), B.out⟩
      · have ql2 := baE_ne ql
        by_cases qb : b.size = 0
        · have qb2 := empty_t qb
          go_wp2_with fail
          go_ret
          exact ⟨ret_bool (by simp [ql, qb]), B.out⟩
        · have qb2 := empty_f qb
          go_wp2_with fail
          go_ret
          exact ⟨ret_bool (by simp [qb]), B.out⟩
theorem entOkv_eq (e : Ent) : entOkv e = (fieldsv e && kindOk e.kind e.path e.link e.body) := rfl
set_option maxHeartbeats 3200000 in
theorem entryOk_impl (k : Int) (p l : ByteArray) (m u g t : Int) (us gr b : ByteArray) (w : World) (hp : p.size ≤ 4194304) (hl : l.size ≤ 4194304) (hus : us.size ≤ 4194304) (hgr : gr.size ≤ 4194304) :
    Calls Tryz.prog 60 #[.agg #[.int .i64 k, .string p, .string l, .int .i64 m, .int .i64 u, .int .i64 g, .int .i64 t, .string us, .string gr, .string b]] w fun e w' => e = .returned (.bool (entOkv ⟨k, p, l, m, u, g, t, us, gr, b⟩)) ∧ Below w.heap.size w w' := by
  have H0 := Lib.hid (fun w => fileOk_impl k p l m u g t us gr b w hp hus hgr)
  have H1 := Lib.hid (fun w => dirOk_impl k p l m u g t us gr b w hp hus hgr)
  have H2 := Lib.hid (fun w => symOk_impl k p l m u g t us gr b w hp hl hus hgr)
  have H3 := Lib.hid (fun w => hardOk_impl k p l m u g t us gr b w hp hl hus hgr)
  have HE : Hid (entOkv ⟨k, p, l, m, u, g, t, us, gr, b⟩ = (fieldsv ⟨k, p, l, m, u, g, t, us, gr, b⟩ && kindOk k p l b)) := Lib.hid rfl
  have HK : Hid (kindOk k p l b = if k = 0 then decide (l.size = 0) && decide (b.size ≤ 3000) else if k = 1 then decide (l.size = 0) && decide (b.size = 0) else if k = 2 then inB l.size 1 150 && signv l && decide (b.size = 0) else if k = 3 then pathOkv l && decide (l ≠ p) && decide (b.size = 0) else false) := Lib.hid rfl
  generalize hk0 : (decide (l.size = 0) && decide (b.size ≤ 3000)) = r0 at H0 HK
  generalize hk1 : (decide (l.size = 0) && decide (b.size = 0)) = r1 at H1 HK
  generalize hk2 : (inB (l.size : Int) 1 150 && signv l && decide (b.size = 0)) = r2 at H2 HK
  generalize hk3 : (pathOkv l && decide (l ≠ p) && decide (b.size = 0)) = r3 at H3 HK
  clear hk0 hk1 hk2 hk3
  generalize kindOk k p l b = rk at HE HK
  generalize entOkv ⟨k, p, l, m, u, g, t, us, gr, b⟩ = r at HE
  generalize fieldsv ⟨k, p, l, m, u, g, t, us, gr, b⟩ = b1 at HE H0 H1 H2 H3
  clear hp hl hus hgr
  by_cases q0 : k = 0
  · have HF : Hid (r = (b1 && r0)) := Lib.hid (by rw [HE.out, HK.out]; simp [q0])
    subst q0
    clear HE HK
    go_enter Tryz.func60, Tryz.ntmps60
    go_wp2_with fail
    refine (H0.out _).mono ?_
    rintro e w1 ⟨rfl, hb⟩
    go_wp2_with fail
    go_ret
    exact ⟨ret_bool HF.out.symm, (((Below.refl _ w).alloc (Nat.le_refl _) _).alloc (by simp) _).trans (hb.mono (by simp; omega))⟩
  by_cases q1 : k = 1
  · have HF : Hid (r = (b1 && r1)) := Lib.hid (by rw [HE.out, HK.out]; simp [q1])
    subst q1
    clear HE HK
    go_enter Tryz.func60, Tryz.ntmps60
    go_wp2_with fail
    refine (H1.out _).mono ?_
    rintro e w1 ⟨rfl, hb⟩
    go_wp2_with fail
    go_ret
    exact ⟨ret_bool HF.out.symm, (((Below.refl _ w).alloc (Nat.le_refl _) _).alloc (by simp) _).trans (hb.mono (by simp; omega))⟩
  by_cases q2 : k = 2
  · have HF : Hid (r = (b1 && r2)) := Lib.hid (by rw [HE.out, HK.out]; simp [q2])
    subst q2
    clear HE HK
    go_enter Tryz.func60, Tryz.ntmps60
    go_wp2_with fail
    refine (H2.out _).mono ?_
    rintro e w1 ⟨rfl, hb⟩
    go_wp2_with fail
    go_ret
    exact ⟨ret_bool HF.out.symm, (((Below.refl _ w).alloc (Nat.le_refl _) _).alloc (by simp) _).trans (hb.mono (by simp; omega))⟩
  by_cases q3 : k = 3
  · have HF : Hid (r = (b1 && r3)) := Lib.hid (by rw [HE.out, HK.out]; simp [q3])
    subst q3
    clear HE HK
    go_enter Tryz.func60, Tryz.ntmps60
    go_wp2_with fail
    refine (H3.out _).mono ?_
    rintro e w1 ⟨rfl, hb⟩
    go_wp2_with fail
    go_ret
    exact ⟨ret_bool HF.out.symm, (((Below.refl _ w).alloc (Nat.le_refl _) _).alloc (by simp) _).trans (hb.mono (by simp; omega))⟩
  have HF : Hid (r = false) := Lib.hid (by rw [HE.out, HK.out, if_neg q0, if_neg q1, if_neg q2, if_neg q3]; simp)
  clear HE HK
  go_enter Tryz.func60, Tryz.ntmps60
  go_wp2_with fail
  go_ret
  exact ⟨ret_bool HF.out.symm, ((Below.refl _ w).alloc (Nat.le_refl _) _).alloc (by simp) _⟩
end Go.Proofs.YtkpdeeembnjmnabGreatDoor

/- Contracts of spec.UstarFits and impl.UstarFits. -/
namespace Go.Proofs.YtkpdeeembnjmnabGreatDoor
open Go.ChangeShapes Go.WideShapes Go.ChangeAt Go.RowKit Go.Deep

def fitsv (e : Ent) : Bool := entOkv e && splitOk e.path && decide ((e.link.size : Int) ≤ 100) && decide (e.uid ≤ 2097151) && decide (e.gid ≤ 2097151) && decide (e.time ≤ 8589934591)
set_option maxHeartbeats 3200000 in
theorem fits_spec (k : Int) (p l : ByteArray) (m u g t : Int) (us gr b : ByteArray) (w : World) (hp : p.size ≤ 4194304) (hl : l.size ≤ 4194304) (hus : us.size ≤ 4194304) (hgr : gr.size ≤ 4194304) (hbz : b.size ≤ 4194304) :
    Calls Tryz.prog 28 #[.agg #[.int .i64 k, .string p, .string l, .int .i64 m, .int .i64 u, .int .i64 g, .int .i64 t, .string us, .string gr, .string b]] w fun e w' => e = .returned (.bool (fitsv ⟨k, p, l, m, u, g, t, us, gr, b⟩)) ∧ Below w.heap.size w w' := by
  have H1 := Lib.hid (fun w => split_spec p w hp)
  have H2 := Lib.hid (fun w => entryOk_spec k p l m u g t us gr b w hp hl hus hgr hbz)
  have HE : Hid (fitsv ⟨k, p, l, m, u, g, t, us, gr, b⟩ = (entOkv ⟨k, p, l, m, u, g, t, us, gr, b⟩ && splitOk p && decide ((l.size : Int) ≤ 100) && decide (u ≤ 2097151) && decide (g ≤ 2097151) && decide (t ≤ 8589934591))) := Lib.hid rfl
  generalize fitsv ⟨k, p, l, m, u, g, t, us, gr, b⟩ = r at HE
  generalize entOkv ⟨k, p, l, m, u, g, t, us, gr, b⟩ = b1 at H2 HE
  generalize splitOk p = b2 at H1 HE
  generalize splitP p = sp at H1
  generalize splitN p = sn at H1
  clear hp hus hgr
  go_enter Tryz.func28, Tryz.ntmps28
  go_wp2_with fail
  refine (H1.out _).mono ?_
  rintro e w1 ⟨rfl, hb⟩
  obtain ⟨k1, bb1, z1⟩ := one_new (e1 := ⟨k, p, l, m, u, g, t, us, gr, b⟩) hb
  have E1 := Lib.hid k1
  have B1 := Lib.hid bb1
  clear hb k1 bb1
  obtain ⟨c0, c1, c2, c3, c4, c5, c6, c7, c8, c9⟩ := E1.out.zero
  go_wp2_with fail
  refine (H2.out _).mono ?_
  rintro e w2 ⟨rfl, hb⟩
  have E2 := Lib.hid (E1.out.below hb (by omega))
  have B2 := Lib.hid (btE B1.out hb)
  clear hb E1 B1 c0 c1 c2 c3 c4 c5 c6 c7 c8 c9
  obtain ⟨c0, c1, c2, c3, c4, c5, c6, c7, c8, c9⟩ := E2.out.zero
  cases b1 with
  | false =>
    go_wp2_with fail
    go_ret
    exact ⟨ret_bool (by rw [HE.out]; simp), B2.out⟩
  | true =>
    cases b2 with
    | false =>
      go_wp2_with fail
      go_ret
      exact ⟨ret_bool (by rw [HE.out]; simp), B2.out⟩
    | true =>
      by_cases q1 : (l.size : Int) ≤ 100
      · by_cases q2 : u ≤ 2097151
        · by_cases q3 : g ≤ 2097151
          · by_cases q4 : t ≤ 8589934591
            · go_wp2_with fail
              go_ret
              exact ⟨ret_bool (by rw [HE.out]; simp [q1, q2, q3, q4]), B2.out⟩
            · go_wp2_with fail
              go_ret
              exact ⟨ret_bool (by rw [HE.out]; simp; omega), B2.out⟩
          · go_wp2_with fail
            go_ret
            exact ⟨ret_bool (by rw [HE.out]; simp; omega), B2.out⟩
        · go_wp2_with fail
          go_ret
          exact ⟨ret_bool (by rw [HE.out]; simp; omega), B2.out⟩
      · go_wp2_with fail
        go_ret
        exact ⟨ret_bool (by rw [HE.out]; simp; omega), B2.out⟩
set_option maxHeartbeats 3200000 in
theorem fits_impl (k : Int) (p l : ByteArray) (m u g t : Int) (us gr b : ByteArray) (w : World) (hp : p.size ≤ 4194304) (hl : l.size ≤ 4194304) (hus : us.size ≤ 4194304) (hgr : gr.size ≤ 4194304) :
    Calls Tryz.prog 61 #[.agg #[.int .i64 k, .string p, .string l, .int .i64 m, .int .i64 u, .int .i64 g, .int .i64 t, .string us, .string gr, .string b]] w fun e w' => e = .returned (.bool (fitsv ⟨k, p, l, m, u, g, t, us, gr, b⟩)) ∧ Below w.heap.size w w' := by
  have H1 := Lib.hid (fun w => split_impl p w hp)
  have H2 := Lib.hid (fun w => entryOk_impl k p l m u g t us gr b w hp hl hus hgr)
  have HE : Hid (fitsv ⟨k, p, l, m, u, g, t, us, gr, b⟩ = (entOkv ⟨k, p, l, m, u, g, t, us, gr, b⟩ && splitOk p && decide ((l.size : Int) ≤ 100) && decide (u ≤ 2097151) && decide (g ≤ 2097151) && decide (t ≤ 8589934591))) := Lib.hid rfl
  generalize fitsv ⟨k, p, l, m, u, g, t, us, gr, b⟩ = r at HE
  generalize entOkv ⟨k, p, l, m, u, g, t, us, gr, b⟩ = b1 at H2 HE
  generalize splitOk p = b2 at H1 HE
  generalize splitP p = sp at H1
  generalize splitN p = sn at H1
  clear hp hus hgr
  go_enter Tryz.func61, Tryz.ntmps61
  go_wp2_with fail
  refine (H1.out _).mono ?_
  rintro e w1 ⟨rfl, hb⟩
  obtain ⟨k1, bb1, z1⟩ := one_new (e1 := ⟨k, p, l, m, u, g, t, us, gr, b⟩) hb
  have E1 := Lib.hid k1
  have B1 := Lib.hid bb1
  clear hb k1 bb1
  obtain ⟨c0, c1, c2, c3, c4, c5, c6, c7, c8, c9⟩ := E1.out.zero
  cases b2 with
  | false =>
    go_wp2_with fail
    go_ret
    exact ⟨ret_bool (by rw [HE.out]; simp), B1.out⟩
  | true =>
    go_wp2_with fail
    refine (H2.out _).mono ?_
    rintro e w2 ⟨rfl, hb⟩
    have E2 := Lib.hid (E1.out.below hb (by omega))
    have B2 := Lib.hid (btE B1.out hb)
    clear hb E1 B1 c0 c1 c2 c3 c4 c5 c6 c7 c8 c9
    obtain ⟨c0, c1, c2, c3, c4, c5, c6, c7, c8, c9⟩ := E2.out.zero
    cases b1 with
    | false =>
      go_wp2_with fail
      go_ret
      exact ⟨ret_bool (by rw [HE.out]; simp), B2.out⟩
    | true =>
      by_cases q1 : (l.size : Int) ≤ 100
      · by_cases q2 : u ≤ 2097151
        · by_cases q3 : g ≤ 2097151
          · by_cases q4 : t ≤ 8589934591
            · go_wp2_with fail
              go_ret
              exact ⟨ret_bool (by rw [HE.out]; simp [q1, q2, q3, q4]), B2.out⟩
            · go_wp2_with fail
              go_ret
              exact ⟨ret_bool (by rw [HE.out]; simp; omega), B2.out⟩
          · go_wp2_with fail
            go_ret
            exact ⟨ret_bool (by rw [HE.out]; simp; omega), B2.out⟩
        · go_wp2_with fail
          go_ret
          exact ⟨ret_bool (by rw [HE.out]; simp; omega), B2.out⟩
      · go_wp2_with fail
        go_ret
        exact ⟨ret_bool (by rw [HE.out]; simp; omega), B2.out⟩
end Go.Proofs.YtkpdeeembnjmnabGreatDoor

/- Contracts of spec.Cut, impl.Cut and the law laws.FnExactCut: the bytes before the first NUL. -/
namespace Go.Proofs.YtkpdeeembnjmnabGreatDoor
open Go.ChangeShapes Go.WideShapes Go.ChangeAt Go.RowKit

def nulFree (l : List UInt8) : List UInt8 := l.takeWhile (· != 0)
def cutv (s : ByteArray) : ByteArray := ⟨(nulFree s.data.toList).toArray⟩
def Nz (l : List UInt8) : Prop := ∀ c ∈ l, c ≠ 0

theorem nz_snoc {l : List UInt8} {c : UInt8} (h : Nz l) (hc : c ≠ 0) : Nz (l ++ [c]) := by
  intro d hd
  rcases List.mem_append.1 hd with hd | hd
  · exact h d hd
  · simp at hd; exact hd ▸ hc
theorem nulFree_append {a b : List UInt8} (h : Nz a) : nulFree (a ++ b) = a ++ nulFree b :=
  List.takeWhile_append_of_pos (by intro c hc; simpa using h c hc)
theorem nulFree_self {a : List UInt8} (h : Nz a) : nulFree a = a := by
  have := nulFree_append (a := a) (b := []) h
  simpa [nulFree] using this
theorem nulFree_at (l : List UInt8) (k : Nat) (hk : k < l.length) (h : Nz (l.take k)) (h0 : l[k] = 0) : nulFree l = l.take k := by
  have e : l = l.take k ++ (l[k] :: l.drop (k + 1)) := by simp
  have h1 : nulFree (l.take k ++ (l[k] :: l.drop (k + 1))) = l.take k := by
    rw [nulFree_append h, h0]; simp [nulFree]
  rw [← e] at h1
  exact h1
theorem nulFree_index (l : List UInt8) : (Lib.indexByte l 0 = -1 → nulFree l = l) ∧ (0 ≤ Lib.indexByte l 0 → nulFree l = l.take (Lib.indexByte l 0).toNat ∧ Lib.indexByte l 0 < l.length) := by
  induction l with
  | nil => simp [Lib.indexByte, nulFree]
  | cons c l ih =>
    by_cases hc : c = 0
    · subst hc; simp [Lib.indexByte, nulFree]
    · have hn : nulFree (c :: l) = c :: nulFree l := by simp [nulFree, hc]
      have hi : Lib.indexByte (c :: l) 0 = if Lib.indexByte l 0 == -1 then -1 else Lib.indexByte l 0 + 1 := by simp [Lib.indexByte, hc]
      have hge := Lib.indexByte_ge l 0
      rw [hn, hi]
      by_cases hm : Lib.indexByte l 0 = -1
      · simp [hm, ih.1 hm]
      · obtain ⟨h1, h2⟩ := ih.2 (by omega)
        have hb : (Lib.indexByte l 0 == -1) = false := by simp [hm]
        rw [hb]
        have e : (Lib.indexByte l 0 + 1).toNat = (Lib.indexByte l 0).toNat + 1 := by omega
        simp [e, h1]
        omega

theorem cut_spec (s : ByteArray) (w : World) (hs : s.size ≤ 9223372036854775807) :
    Calls Tryz.prog 46 #[.string s] w fun e w' => e = .returned (.string (cutv s)) ∧ w = w' := by
  go_enter Tryz.func46, Tryz.ntmps46
  go_wp2
  go_loop [3] (fun i => ∃ k : Nat, k ≤ s.size ∧ i = .int .i64 k ∧ Nz (s.data.toList.take k)) (fun i => s.size - (intOf i).toNat)
  case atStart => exact ⟨0, Nat.zero_le _, rfl, by intro c hc; simp at hc⟩
  case round =>
    obtain ⟨k, hk, rfl, hnz⟩ := hrel
    have HZ := Lib.hid hnz
    clear hnz
    by_cases hlt : k < s.size
    · by_cases hc : s[k] = 0
      · have hb : (((s[k].toNat : Nat) : Int) == 0) = true := by simp [hc]
        go_wp2
        go_ret
        refine ⟨ret_str (ba_ext ?_), rfl⟩
        rw [Lib.extract_data]
        have hl : k < s.data.toList.length := by simpa using hlt
        simp only [cutv, nulFree_at s.data.toList k hl HZ.out hc, List.drop_zero, Nat.sub_zero]
      · have hb : (((s[k].toNat : Nat) : Int) == 0) = false := byte_eq0 hc
        have HN := Lib.hid (show Nz (s.data.toList.take (k + 1)) by rw [take_snoc s k hlt]; exact nz_snoc HZ.out hc)
        clear hc
        go_wp2
        go_round
        case rel => exact ⟨k + 1, by omega, by go_num, HN.out⟩
        case measure => simp [intOf]; omega
    · go_wp2
      go_ret
      refine ⟨ret_str (ba_ext ?_), rfl⟩
      have e : s.data.toList.take k = s.data.toList := List.take_of_length_le (by simp; omega)
      have hz := HZ.out
      rw [e] at hz
      simp only [cutv, nulFree_self hz]


/-- strings.Cut at a NUL: what stands before it. -/
def CutPost (s : ByteArray) (w : World) (e : Ending) (w' : World) : Prop := ∃ r f, e = .returned (.tuple #[.string (cutv s), .string r, .bool f]) ∧ ∃ n, w' = w.drewN n

theorem lcut_any (s : ByteArray) (w : World) (hs : s.size ≤ 1099511627776) :
    Calls Tryz.prog 137 #[.string s, .string ⟨#[0]⟩] w (CutPost s w) := by
  have hi := nulFree_index s.data.toList
  have hge := Lib.indexByte_ge s.data.toList 0
  have hsz : s.data.toList.length = s.size := by simp
  by_cases hm : Lib.indexByte s.data.toList 0 = -1
  · have H1 := Lib.hid (hi.1 hm)
    have HM := Lib.hid hm
    have hlt : decide (0 ≤ Lib.indexByte s.data.toList 0) = false := by simp [hm]
    have hneg : Lib.indexByte s.data.toList 0 < 0 := by omega
    clear hi hm
    go_enter Tryz.func137, Tryz.ntmps137
    go_wp2_with (go_at_call 106; refine (Tryz.stringslite_Index_one _ _ _).mono ?_; rintro e w' ⟨rfl, rfl⟩)
    go_ret3
    refine ⟨⟨#[]⟩, false, ?_, 0, rfl⟩
    rw [show cutv s = s from ba_ext (by simp [cutv, H1.out])]
    rfl
  · obtain ⟨h1, h2⟩ := hi.2 (by omega)
    obtain ⟨k, hk⟩ := Int.eq_ofNat_of_zero_le (show 0 ≤ Lib.indexByte s.data.toList 0 by omega)
    rw [hk] at h1 h2
    simp only [Int.toNat_natCast] at h1
    have hks : k < s.size := by omega
    have hks1 : (k : Int) + 1 ≤ (s.size : Int) := by omega
    have e1 : IntKind.i64.wrap ((k : Int) + 1) = (k : Int) + 1 := IntWalk.i64_in _ (by omega)
    have e2 : (0 : Int) ≤ (k : Int) + 1 := by omega
    have e3 : ((k : Int) + 1).toNat = k + 1 := by omega
    have hks2 : (k : Int) ≤ (s.size : Int) := by omega
    have hks3 : k ≤ s.size := by omega
    have hks4 : k + 1 ≤ s.size := by omega
    have H1 := Lib.hid h1
    have hc := fun w => Tryz.stringslite_Index_one s 0 w
    rw [hk] at hc
    have HC := Lib.hid hc
    clear h1 h2 hi hm hge hk hc hsz
    go_enter Tryz.func137, Tryz.ntmps137
    go_wp2_with (go_at_call 106; refine (HC.out _).mono ?_; rintro e w' ⟨rfl, rfl⟩)
    go_quiet (fail)
    go_wp2
    go_ret3
    refine ⟨s.extract (k + 1) s.size, true, ?_, nq, rfl⟩
    rw [show cutv s = s.extract 0 k from ba_ext (by rw [Lib.extract_data]; simp [cutv, H1.out])]
    rfl

theorem scut_any (s : ByteArray) (w : World) (hs : s.size ≤ 1099511627776) :
    Calls Tryz.prog 123 #[.string s, .string ⟨#[0]⟩] w (CutPost s w) := by
  go_enter Tryz.func123, Tryz.ntmps123
  go_wp2_with (go_at_call 137; refine (lcut_any _ _ hs).mono ?_; rintro e w' ⟨r, f, rfl, n, rfl⟩)
  go_ret3
  exact ⟨r, f, rfl, n, rfl⟩

theorem cutv_le (s : ByteArray) : (cutv s).size ≤ s.size := by
  have h : (nulFree s.data.toList).length ≤ s.data.toList.length := by
    have := List.takeWhile_prefix (l := s.data.toList) (· != 0)
    exact this.length_le
  have e : (cutv s).size = (nulFree s.data.toList).length := by simp [cutv, ByteArray.size]
  rw [e]; simpa using h

theorem cut_impl (s : ByteArray) (w : World) (hs : s.size ≤ 1099511627776) :
    Calls Tryz.prog 105 #[.string s] w fun e w' => e = .returned (.string (cutv s)) ∧ Below w.heap.size w w' := by
  have hle := cutv_le s
  go_enter Tryz.func105, Tryz.ntmps105
  go_wp2_with fail
  refine (scut_any _ _ hs).mono ?_
  rintro e w' ⟨r, f, rfl, n, rfl⟩
  go_wp2_with fail
  refine (clone_any _ _ (by omega)).mono ?_
  rintro e w' ⟨rfl, hb⟩
  go_wp2_with fail
  go_ret
  exact ⟨rfl, (below_drewN (Below.refl _ _) n).trans hb⟩

end Go.Proofs.YtkpdeeembnjmnabGreatDoor

/- Contracts of spec.l01Nuls, spec.Fill, impl.Fill and the law laws.FnExactFill. -/
namespace Go.Proofs.YtkpdeeembnjmnabGreatDoor
open Go.ChangeShapes Go.WideShapes Go.ChangeAt Go.RowKit

def nuls (n : Nat) : List UInt8 := List.replicate n 0
theorem nuls_succ (n : Nat) : nuls n ++ [0] = nuls (n + 1) := by simp [nuls, List.replicate_succ']
theorem nuls_len (n : Nat) : (nuls n).length = n := by simp [nuls]
def nulv (n : Nat) : ByteArray := ⟨(nuls n).toArray⟩

theorem nuls_spec (n : Int) (w : World) (hn : n ≤ 1024) :
    Calls Tryz.prog 31 #[.int .i64 n] w fun e w' => e = .returned (.string (nulv n.toNat)) ∧ Below w.heap.size w w' := by
  obtain ⟨i0, hi, hz0, hz1, hz2⟩ := info_parts Tryz.info5
  go_enter Tryz.func31, Tryz.ntmps31
  go_wp2
  go_loopw [3, 4] (fun v i wr => ∃ k : Nat, k ≤ n.toNat ∧ i = .int .i64 k ∧ OwnB wr w.heap.size v (nuls k) ∧ Below w.heap.size w wr) (fun _ i _ => n.toNat - (intOf i).toNat)
  case atStart => exact ⟨0, Nat.zero_le _, rfl, OwnB.lit (Nat.le_refl _), (Below.refl _ _).alloc (Nat.le_refl _) _⟩
  case round =>
    obtain ⟨k, hk, rfl, hown, hb⟩ := hrel
    have HO := Lib.hid hown
    have HB := Lib.hid hb
    clear hown hb
    by_cases hlt : (k : Int) < n
    · have hsz := HB.out.size
      go_wp2_with (at_builtin; refine wpList_append_own _ rfl _ _ 56 rfl w.heap.size 5 i0 (.int .u8 0) 1 1 Tryz.underlying56 hi hz0 hz1 hz2 rfl (by decide) _ _ _ rfl (HO.out.alloc _) ⟨wr.heap.size, 0, none⟩ 1 1 [.int .u8 0] rfl rfl ?c1 ?c2 ?c3 ?c4 ?c5 ?_)
      case c1 =>
        intro j u hj
        match j, hj with
        | 0, hj => simp at hj; subst hj; simp [Addr.add]
      case c2 => intro u hu; simp at hu; subst hu; rfl
      case c3 => simp only [nuls_len, maxLen]; omega
      case c4 => simp only [nuls_len]; omega
      case c5 => simp; omega
      · intro v' w1 hown' hgrow _
        have hO : OwnB w1 w.heap.size v' (nuls (k + 1)) := by
          have e : byteVals (nuls k) ++ [.int .u8 0] = byteVals (nuls (k + 1)) := by rw [← nuls_succ, ← byteVals_snoc]; rfl
          rw [e] at hown'
          have e2 : (nuls k).length + 1 = (nuls (k + 1)).length := by simp [nuls_len]
          rw [e2] at hown'
          exact hown'
        have hBl : Below w.heap.size w w1 := (HB.out.alloc hsz _).grown hgrow (by simp; omega) (fun b hb => (HO.out.lt b hb).1)
        clear hown' hgrow
        go_wp2
        go_roundw
        case rel => exact ⟨k + 1, by omega, by go_num, hO, hBl⟩
        case measure => simp [intOf]; omega
    · have hc := HO.out.conv
      go_wp2
      go_ret
      have e : k = n.toNat := by omega
      subst e
      exact ⟨rfl, HB.out⟩

def fillv (s : ByteArray) (width : Int) : ByteArray := if 1024 < width ∨ width ≤ s.size then s else s ++ nulv (width - s.size).toNat
theorem nulv_size (n : Nat) : (nulv n).size = n := by simp [nulv, nuls, ByteArray.size]

theorem fill_spec (s : ByteArray) (width : Int) (w : World) (hs : s.size ≤ 9223372036854775807) :
    Calls Tryz.prog 74 #[.string s, .int .i64 width] w fun e w' => e = .returned (.string (fillv s width)) ∧ Below w.heap.size w w' := by
  by_cases h1 : 1024 < width
  · go_enter Tryz.func74, Tryz.ntmps74
    go_wp2
    go_ret
    exact ⟨ret_str (by rw [fillv, if_pos (.inl h1)]), Below.refl _ _⟩
  · by_cases h2 : width ≤ (s.size : Int)
    · go_enter Tryz.func74, Tryz.ntmps74
      go_wp2
      go_ret
      exact ⟨ret_str (by rw [fillv, if_pos (.inr h2)]), Below.refl _ _⟩
    · have hn : (nulv (width.toNat - s.size)).size ≤ 1024 := by rw [nulv_size]; omega
      go_enter Tryz.func74, Tryz.ntmps74
      go_wp2_with fail
      refine (nuls_spec _ _ (by omega)).mono ?_
      rintro e w' ⟨rfl, hb⟩
      go_wp2_with fail
      go_ret
      exact ⟨ret_str (by rw [fillv, if_neg (by omega), show (width - (s.size : Int)).toNat = width.toNat - s.size from by omega]), hb⟩

theorem repeatL_nul (n : Nat) : Lib.repeatL [0] n = nuls n := by
  induction n with
  | zero => rfl
  | succ n ih => rw [Lib.repeatL, ih]; simp [nuls, List.replicate_succ]

theorem fill_impl (s : ByteArray) (width : Int) (w : World) (hs : s.size ≤ 1099511627776) :
    Calls Tryz.prog 66 #[.string s, .int .i64 width] w fun e w' => e = .returned (.string (fillv s width)) ∧ Below w.heap.size w w' := by
  by_cases h2 : width ≤ (s.size : Int)
  · go_enter Tryz.func66, Tryz.ntmps66
    go_wp2_with (go_at_call 70; refine (clone_any _ _ (by omega)).mono ?_; rintro e w' ⟨rfl, hb⟩)
    go_ret
    exact ⟨ret_str (by rw [fillv, if_pos (.inr h2)]), by assumption⟩
  · by_cases h1 : 1024 < width
    · go_enter Tryz.func66, Tryz.ntmps66
      go_wp2_with (go_at_call 70; refine (clone_any _ _ (by omega)).mono ?_; rintro e w' ⟨rfl, hb⟩)
      go_ret
      exact ⟨ret_str (by rw [fillv, if_pos (.inl h1)]), by assumption⟩
    · obtain ⟨k, hk⟩ := Int.eq_ofNat_of_zero_le (show 0 ≤ width - (s.size : Int) by omega)
      obtain rfl : width = (s.size : Int) + k := by omega
      have hn : (nulv k).size ≤ 1024 := by rw [nulv_size]; omega
      have hr := fun w => Tryz.strings_Repeat ⟨#[0]⟩ k w (by omega) (by simp [ByteArray.size]; omega)
      have e1 : (⟨(Lib.repeatL (⟨#[0]⟩ : ByteArray).data.toList k).toArray⟩ : ByteArray) = nulv k := by simp [nulv, repeatL_nul]
      rw [e1] at hr
      have HR := Lib.hid hr
      clear hr e1 hk
      go_enter Tryz.func66, Tryz.ntmps66
      go_wp2_with fail
      rw [show (s.size : Int) + k - s.size = (k : Int) from by omega]
      refine (HR.out _).mono ?_
      rintro e w' ⟨rfl, hb⟩
      go_wp2_with fail
      go_ret
      refine ⟨ret_str ?_, hb⟩
      rw [fillv, if_neg (by omega), show ((s.size : Int) + k - s.size).toNat = k from by omega]

end Go.Proofs.YtkpdeeembnjmnabGreatDoor

/- The texts of a header, and that what the program lays field by field is their sum: plain lists only. -/
namespace Go.Proofs.YtkpdeeembnjmnabGreatDoor
open Go.ChangeShapes Go.WideShapes Go.ChangeAt Go.RowKit

def octz (n width : Int) : ByteArray := (putOctv n (width - 1)).1 ++ ⟨#[0]⟩
def magicU : ByteArray := ⟨#[117, 115, 116, 97, 114, 0, 48, 48]⟩
def headA (e : Ent) (name : ByteArray) (size : Int) : ByteArray := fillv name 100 ++ octz e.mode 8 ++ octz e.uid 8 ++ octz e.gid 8 ++ octz size 12 ++ octz e.time 12
def headB (e : Ent) (pf flag magic : ByteArray) : ByteArray := flag ++ fillv e.link 100 ++ magic ++ fillv e.user 32 ++ fillv e.group 32 ++ octz 0 8 ++ octz 0 8 ++ fillv pf 155 ++ nulv 12
def headv (e : Ent) (name pf flag : ByteArray) (size : Int) (magic : ByteArray) : ByteArray :=
  headA e name size ++ (putOctv (sumv (headA e name size).data.toList + 256 + sumv (headB e pf flag magic).data.toList) 6).1 ++ ⟨#[0, 32]⟩ ++ headB e pf flag magic
def putHeadv (e : Ent) (flag : ByteArray) (size : Int) : ByteArray :=
  if fitsv e = true ∧ flag.size = 1 ∧ (0 ≤ size ∧ size ≤ 3000) then headv e (splitN e.path) (splitP e.path) flag size magicU else ⟨#[]⟩

theorem numeral_8 {n k : Nat} (hk : 1 ≤ k) (h : n < 8 ^ k) : (numeral 8 n).length ≤ k := numeral_len (by omega) hk h
/-- A number that fits has just as many digits as its field. -/
theorem oct_fits {n : Int} {k : Nat} (h0 : 0 ≤ n) (hk : 1 ≤ k) (hk2 : k ≤ 17) (h : n.toNat < 8 ^ k) : (putOctv n k).2 = true ∧ (putOctv n k).1.size = k ∧ (putOctv n k).1 = ⟨(ahead (numeral 8 n.toNat) k).toArray⟩ := by
  have hp : (8 : Nat) ^ k ≤ 8 ^ 17 := Nat.pow_le_pow_right (by omega) hk2
  have hl := numeral_8 hk h
  have h17 : (8 : Nat) ^ 17 = 2251799813685248 := by decide
  have hv : Valid n k ∧ ((numeral 8 n.toNat).length : Int) ≤ k := ⟨⟨h0, by omega, by omega, by omega⟩, by omega⟩
  have e : putOctv n k = (⟨(ahead (numeral 8 n.toNat) k).toArray⟩, true) := by rw [putOctv, if_pos hv]
  rw [e]
  exact ⟨rfl, by rw [ba_size, ahead_len]; omega, rfl⟩
theorem putOct_size (n width : Int) : (putOctv n width).1.size ≤ 20 := by
  unfold putOctv
  split
  · rename_i h
    rw [ba_size, ahead_len]
    have := h.1.2.2.2
    omega
  · decide
theorem octz_size (n width : Int) : (octz n width).size ≤ 21 := by
  rw [octz, ByteArray.size_append]
  have := putOct_size n (width - 1)
  have e : (⟨#[0]⟩ : ByteArray).size = 1 := rfl
  omega
theorem fill_size (s : ByteArray) (width : Int) (h : 0 ≤ width) : (fillv s width).size ≤ s.size + width.toNat := by
  unfold fillv
  split
  · omega
  · rw [ByteArray.size_append, nulv_size]; omega
/-- A field of a text, filled. -/
theorem fill_short {s : ByteArray} {n : Nat} (h : s.size ≤ n) (hn : n ≤ 1024) : (fillv s n).data.toList = s.data.toList ++ nuls (n - s.size) := by
  unfold fillv
  by_cases q : s.size = n
  · rw [if_pos (.inr (by omega)), show n - s.size = 0 from by omega]; simp [nuls]
  · rw [if_neg (by omega), show ((n : Int) - s.size).toNat = n - s.size from by omega]
    simp [nulv]

/-- What a field of l holds behind a text laid over it. -/
theorem over_mid (a f b s : List UInt8) (h : s.length ≤ f.length) : over (a ++ f ++ b) a.length s = a ++ (s ++ f.drop s.length) ++ b := by
  unfold over
  have h1 : (a ++ f ++ b).take a.length = a := by simp
  have h2 : (a ++ f ++ b).drop (a.length + s.length) = f.drop s.length ++ b := by
    rw [List.append_assoc, ← List.drop_drop]
    simp [List.drop_append, Nat.sub_eq_zero_of_le h]
  rw [h1, h2]
  simp
/-- The fields of a header, each of its width, and what stands behind them. -/
def WF (F : List (List UInt8)) : Prop := F.map List.length = widths ++ [12]
def flat (F : List (List UInt8)) : List UInt8 := F.flatten
theorem flat_at {F : List (List UInt8)} (hF : WF F) {k x : Nat} (hk : k < 15) (hx : widths[k]? = some x) : ∃ f, F[k]? = some f ∧ f.length = x ∧ ∀ s : List UInt8, s.length ≤ x → over (flat F) (offs k) s = flat (F.set k (s ++ f.drop s.length)) := by
  have hlen : F.length = 16 := by have := congrArg List.length hF; simpa [widths] using this
  have hf : F[k]? = some F[k] := List.getElem?_eq_getElem (by omega)
  have hl : F[k].length = x := by
    have h1 : (F.map List.length)[k]? = some F[k].length := by rw [List.getElem?_map, hf]; rfl
    rw [hF, List.getElem?_append_left (by simp [widths]; omega), hx] at h1
    exact (Option.some.inj h1).symm
  refine ⟨F[k], hf, hl, fun s hs => ?_⟩
  have ho : (F.take k).flatten.length = offs k := by
    rw [List.length_flatten, List.map_take, hF, offs, List.take_append_of_le_length (by simp [widths]; omega)]
  have e1 : flat F = (F.take k).flatten ++ F[k] ++ (F.drop (k + 1)).flatten := by
    unfold flat
    have e0 : F = F.take k ++ F[k] :: F.drop (k + 1) := by rw [← List.drop_eq_getElem_cons (by omega : k < F.length), List.take_append_drop]
    have e3 := congrArg List.flatten e0
    rw [List.flatten_append, List.flatten_cons, ← List.append_assoc] at e3
    exact e3
  have e2 : flat (F.set k (s ++ F[k].drop s.length)) = (F.take k).flatten ++ (s ++ F[k].drop s.length) ++ (F.drop (k + 1)).flatten := by
    unfold flat
    rw [List.set_eq_take_append_cons_drop, if_pos (by omega)]
    simp
  rw [e1, e2, ← ho]
  exact over_mid _ _ _ _ (by omega)
theorem WF.set {F : List (List UInt8)} (hF : WF F) {k x : Nat} (hk : k < 15) (hx : widths[k]? = some x) {g : List UInt8} (hg : g.length = x) : WF (F.set k g) := by
  unfold WF at hF ⊢
  rw [List.map_set, hF]
  apply List.ext_getElem?
  intro i
  by_cases hi : i = k
  · subst hi
    rw [List.getElem?_set_self (by simp [widths]; omega), List.getElem?_append_left (by simp [widths]; omega), hx, hg]
  · rw [List.getElem?_set_ne (fun e => hi e.symm)]
end Go.Proofs.YtkpdeeembnjmnabGreatDoor

/- impl.block's methods put and putNumber by fields; impl.sumText; spec.l04Oct. -/
namespace Go.Proofs.YtkpdeeembnjmnabGreatDoor
open Go.ChangeShapes Go.WideShapes Go.ChangeAt Go.RowKit

theorem l04Oct_spec (n width : Int) (w : World) (h1 : 1 ≤ width) (h2 : width ≤ 20) :
    Calls Tryz.prog 75 #[.int .i64 n, .int .i64 width] w fun e w' => e = .returned (.string (octz n width)) ∧ w = w' := by
  have H1 := Lib.hid (fun w => putOct_spec n (width - 1) w)
  have HE : Hid (octz n width = (putOctv n (width - 1)).1 ++ ⟨#[0]⟩) := Lib.hid rfl
  have hz := putOct_size n (width - 1)
  generalize octz n width = r at HE
  generalize putOctv n (width - 1) = pr at *
  obtain ⟨a, b⟩ := pr
  simp only at hz HE H1
  go_enter Tryz.func75, Tryz.ntmps75
  go_wp2_with fail
  refine (H1.out _).mono ?_
  rintro e w1 ⟨rfl, rfl⟩
  go_wp2
  go_ret
  exact ⟨ret_str HE.out.symm, rfl⟩
/-- A header in memory, by its fields. -/
def BlkF (w : World) (g : Nat) (F : List (List UInt8)) : Prop := WF F ∧ Blk w g (flat F)
theorem BlkF.below {w w' : World} {g B : Nat} {F : List (List UInt8)} (h : BlkF w g F) (hb : Below B w w') (hg : g < B) : BlkF w' g F := ⟨h.1, h.2.below hb hg⟩
theorem put_f (g k x : Nat) (F : List (List UInt8)) (s : ByteArray) (f : List UInt8) (w : World) (hk : k < 15) (hx : widths[k]? = some x) (hf : F[k]? = some f) (hs : s.size ≤ x) (hF : FW w) (hB : BlkF w g F) :
    Calls Tryz.prog 64 #[.pointer (some ⟨g, 0, none⟩), .int .i64 k, .string s] w fun e w' => e = .returned (.tuple #[]) ∧ BlkF w' g (F.set k (s.data.toList ++ f.drop s.size)) ∧ w'.heap.size = w.heap.size ∧ ∀ B, B ≤ g → Below B w w' := by
  obtain ⟨f', hf', hl, ho⟩ := flat_at hB.1 hk hx
  obtain rfl : f' = f := by rw [hf'] at hf; exact Option.some.inj hf
  have hz : s.data.toList.length = s.size := by simp
  refine (put_any g k x (flat F) s w hk hx hs hF hB.2).mono ?_
  rintro e w' ⟨rfl, h1, h2, h3⟩
  rw [ho _ (by omega), hz] at h1
  exact ⟨rfl, ⟨hB.1.set hk hx (by simp; omega), h1⟩, h2, h3⟩
theorem putNum_f (g k x : Nat) (F : List (List UInt8)) (n : Int) (w : World) (hk : k < 15) (hx : widths[k]? = some x) (hx2 : 2 ≤ x) (hx3 : x ≤ 18) (hn : 0 ≤ n) (hn2 : n.toNat < 8 ^ (x - 1)) (hf : F[k]? = some (nuls x)) (hT : Tabs w) (hF : FW w) (hB : BlkF w g F) :
    Calls Tryz.prog 65 #[.pointer (some ⟨g, 0, none⟩), .int .i64 k, .int .i64 n] w fun e w' => e = .returned (.tuple #[]) ∧ BlkF w' g (F.set k (octz n x).data.toList) ∧ w.heap.size ≤ w'.heap.size ∧ ∀ B, B ≤ g → Below B w w' := by
  obtain ⟨_, hz, _⟩ := oct_fits hn (show 1 ≤ x - 1 by omega) (by omega) hn2
  have hc := hF k x hx
  have H1 := Lib.hid (fun w h => putOct_impl n ((x : Int) - 1) w h)
  rw [show ((x - 1 : Nat) : Int) = (x : Int) - 1 from by omega] at hz
  have HO : Hid ((octz n x).data.toList = (putOctv n ((x : Int) - 1)).1.data.toList ++ (nuls x).drop (putOctv n ((x : Int) - 1)).1.size) := Lib.hid (by
    rw [hz, octz, ByteArray.data_append, Array.toList_append]
    congr 1
    simp only [nuls, List.drop_replicate, show x - (x - 1) = 1 from by omega]
    rfl)
  generalize octz n x = r at HO
  have H2 := Lib.hid (fun w hF hB => put_f g k x F (putOctv n ((x : Int) - 1)).1 (nuls x) w hk hx hf (by omega) hF hB)
  rw [← HO.out] at H2
  generalize putOctv n ((x : Int) - 1) = pr at *
  obtain ⟨a, b⟩ := pr
  simp only at H1 H2 hz
  have HT := Lib.hid hT
  have HF := Lib.hid hF
  have HB := Lib.hid hB
  have hg : g < w.heap.size := hB.2.lt
  have hxx : (x : Int) ≤ 18 := by omega
  have hkk : (k : Int) < 15 := by omega
  clear hT hF hB hf hx hn2 HO
  go_enter Tryz.func65, Tryz.ntmps65
  go_wp2_with fail
  refine (H1.out _ HT.out).mono ?_
  rintro e w1 ⟨rfl, hb1⟩
  have F1 := Lib.hid (HF.out.below hb1)
  have B1 := Lib.hid (HB.out.below hb1 hg)
  have L1 := Lib.hid hb1
  clear hb1
  go_wp2_with fail
  refine (H2.out _ F1.out B1.out).mono ?_
  rintro e w2 ⟨rfl, hk2, hz2, hb2⟩
  have s1 := L1.out.size
  go_wp2
  refine bodyPost_end (results_none rfl _ _ _) rfl ?_
  exact ⟨rfl, hk2, by omega, fun B hB => (L1.out.mono (by omega)).trans (hb2 B hB)⟩
theorem sumText_any (s : ByteArray) (w : World) (hs : s.size ≤ 1048576) (hT : Tabs w) (hF : FW w) :
    Calls Tryz.prog 53 #[.string s] w fun e w' => e = .returned (.string ((putOctv (headSumv s) 6).1 ++ ⟨#[0, 32]⟩)) ∧ Below w.heap.size w w' := by
  have H1 := Lib.hid (fun w h => headSum_impl s w hs h)
  have H2 := Lib.hid (fun w h => putOct_impl (headSumv s) 6 w h)
  have hz := putOct_size (headSumv s) 6
  generalize headSumv s = r at *
  generalize putOctv r 6 = pr at *
  obtain ⟨a, b⟩ := pr
  simp only at H2 hz
  have HT := Lib.hid hT
  have HF := Lib.hid hF
  clear hT hF
  go_enter Tryz.func53, Tryz.ntmps53
  go_wp2_with fail
  refine (H1.out _ HF.out).mono ?_
  rintro e w1 ⟨rfl, hb1⟩
  have T1 := Lib.hid (HT.out.below hb1)
  go_wp2_with fail
  refine (H2.out _ T1.out).mono ?_
  rintro e w2 ⟨rfl, hb2⟩
  go_wp2
  go_ret
  exact ⟨rfl, hb1.trans (hb2.mono hb1.size)⟩
end Go.Proofs.YtkpdeeembnjmnabGreatDoor

/- Contract of impl.PutHead. -/
namespace Go.Proofs.YtkpdeeembnjmnabGreatDoor
open Go.ChangeShapes Go.WideShapes Go.ChangeAt Go.RowKit Go.Deep

theorem put_t (g k x : Nat) (F : List (List UInt8)) (s : ByteArray) (w : World) (hk : k < 15) (hx : widths[k]? = some x) (hf : F[k]? = some (nuls x)) (hs : s.size ≤ x) (hF : FW w) (hB : BlkF w g F) :
    Calls Tryz.prog 64 #[.pointer (some ⟨g, 0, none⟩), .int .i64 k, .string s] w fun e w' => e = .returned (.tuple #[]) ∧ BlkF w' g (F.set k (fillv s x).data.toList) ∧ w.heap.size ≤ w'.heap.size ∧ ∀ B, B ≤ g → Below B w w' := by
  refine (put_f g k x F s (nuls x) w hk hx hf hs hF hB).mono ?_
  obtain ⟨y, hy, y1, y2, _⟩ := widths_at hk
  obtain rfl : y = x := by rw [hy] at hx; exact Option.some.inj hx
  rw [fill_short hs (by omega)]
  rintro e w' ⟨rfl, h1, h2, h3⟩
  rw [show (nuls y).drop s.size = nuls (y - s.size) from by simp [nuls]] at h1
  exact ⟨rfl, h1, by omega, h3⟩
def F0 : List (List UInt8) := widths.map nuls ++ [nuls 12]
theorem F0_wf : WF F0 := by
  show F0.map List.length = widths ++ [12]
  decide
theorem F0_flat : flat F0 = zeros512 := by decide +kernel
/-- The numbers of an entry that fits have their digits. -/
theorem fits_nums {e : Ent} (h : fitsv e = true) : (0 ≤ e.mode ∧ e.mode ≤ 4095) ∧ (0 ≤ e.uid ∧ e.uid ≤ 2097151) ∧ (0 ≤ e.gid ∧ e.gid ≤ 2097151) ∧ (0 ≤ e.time ∧ e.time ≤ 8589934591) ∧ e.link.size ≤ 100 ∧ e.user.size ≤ 32 ∧ e.group.size ≤ 32 ∧ splitOk e.path = true := by
  simp only [fitsv, entOkv, Bool.and_eq_true, decide_eq_true_eq, inB, whov] at h
  exact ⟨by omega, by omega, by omega, by omega, by omega, by omega, by omega, h.1.1.1.1.2⟩
theorem split_sizes {s : ByteArray} (h : splitOk s = true) : (splitN s).size ≤ 100 ∧ (splitP s).size ≤ 155 := by
  simp only [splitOk, Bool.and_eq_true, Bool.or_eq_true, decide_eq_true_eq] at h
  by_cases hs : s.size ≤ 100
  · obtain ⟨_, h2, h3⟩ := split_short h.1 hs
    rw [h2, h3]
    exact ⟨hs, by decide⟩
  · have hl : slashv s ≤ 155 := h.2.resolve_left hs
    obtain ⟨_, h2, h3⟩ := split_long h.1 (by omega) hl
    obtain ⟨_, hge, hlt, _⟩ := slash_there h.1 (by omega)
    rw [h2, h3, ByteArray.size_extract, ByteArray.size_extract]
    omega
theorem head_sum {X Y : List UInt8} (hX : X.length = 148) (hY : Y.length = 356) : headSumv ⟨(X ++ nuls 8 ++ Y).toArray⟩ = sumv X + 256 + sumv Y := by
  have hl : (X ++ nuls 8 ++ Y).length = 512 := by simp [nuls, hX, hY]
  rw [headSumv, if_neg (by rw [ba_size, hl]; omega)]
  have e1 : ((X ++ nuls 8 ++ Y).take 512) = X ++ nuls 8 ++ Y := List.take_of_length_le (by omega)
  have e2 : (X ++ nuls 8 ++ Y).take 148 = X := by rw [List.append_assoc, ← hX]; simp
  have e3 : (X ++ nuls 8 ++ Y).drop 156 = Y := by
    have : (X ++ nuls 8).length = 156 := by simp [nuls, hX]
    rw [← this]; simp
  show sumv ((X ++ nuls 8 ++ Y).take 148) + 256 + sumv (((X ++ nuls 8 ++ Y).take 512).drop 156) = _
  rw [e1, e2, e3]

set_option maxHeartbeats 6400000 in
set_option maxRecDepth 8000 in
theorem putHead_yes (k : Int) (p l : ByteArray) (m u g t : Int) (us gr b fl : ByteArray) (sz : Int) (w : World) (hp : p.size ≤ 4194304) (hl : l.size ≤ 4194304) (hus : us.size ≤ 4194304) (hgr : gr.size ≤ 4194304) (hfit : fitsv ⟨k, p, l, m, u, g, t, us, gr, b⟩ = true) (hfl : fl.size = 1) (hs : 0 ≤ sz ∧ sz ≤ 3000) (hT : Tabs w) (hF : FW w) :
    Calls Tryz.prog 34 #[.agg #[.int .i64 k, .string p, .string l, .int .i64 m, .int .i64 u, .int .i64 g, .int .i64 t, .string us, .string gr, .string b], .string fl, .int .i64 sz] w fun e w' => e = .returned (.string (headv ⟨k, p, l, m, u, g, t, us, gr, b⟩ (splitN p) (splitP p) fl sz magicU)) ∧ Below w.heap.size w w' := by
  have H1 := Lib.hid (fun w => fits_impl k p l m u g t us gr b w hp hl hus hgr)
  rw [hfit] at H1
  have H2 := Lib.hid (fun w => upTo_any sz 3000 w)
  rw [inB_t hs] at H2
  have H3 := Lib.hid (fun w => split_impl p w hp)
  obtain ⟨nm, nu, ng, nt, zl, zus, zgr, hso⟩ := fits_nums hfit
  simp only at nm nu ng nt zl zus zgr hso
  obtain ⟨zn, zp⟩ := split_sizes hso
  have HA : Hid ((headA ⟨k, p, l, m, u, g, t, us, gr, b⟩ (splitN p) sz).data.toList = (fillv (splitN p) 100).data.toList ++ (octz m 8).data.toList ++ (octz u 8).data.toList ++ (octz g 8).data.toList ++ (octz sz 12).data.toList ++ (octz t 12).data.toList) := Lib.hid (by simp [headA])
  have HB : Hid ((headB ⟨k, p, l, m, u, g, t, us, gr, b⟩ (splitP p) fl magicU).data.toList = fl.data.toList ++ (fillv l 100).data.toList ++ magicU.data.toList ++ (fillv us 32).data.toList ++ (fillv gr 32).data.toList ++ (octz 0 8).data.toList ++ (octz 0 8).data.toList ++ (fillv (splitP p) 155).data.toList ++ nuls 12) := Lib.hid (by simp [headB, nulv])
  have HV : Hid (headv ⟨k, p, l, m, u, g, t, us, gr, b⟩ (splitN p) (splitP p) fl sz magicU = headA ⟨k, p, l, m, u, g, t, us, gr, b⟩ (splitN p) sz ++ (putOctv (sumv (headA ⟨k, p, l, m, u, g, t, us, gr, b⟩ (splitN p) sz).data.toList + 256 + sumv (headB ⟨k, p, l, m, u, g, t, us, gr, b⟩ (splitP p) fl magicU).data.toList) 6).1 ++ ⟨#[0, 32]⟩ ++ headB ⟨k, p, l, m, u, g, t, us, gr, b⟩ (splitP p) fl magicU) := Lib.hid rfl
  generalize headv ⟨k, p, l, m, u, g, t, us, gr, b⟩ (splitN p) (splitP p) fl sz magicU = r at HV
  generalize headA ⟨k, p, l, m, u, g, t, us, gr, b⟩ (splitN p) sz = hA at HA HV
  generalize headB ⟨k, p, l, m, u, g, t, us, gr, b⟩ (splitP p) fl magicU = hB at HB HV
  generalize splitN p = sn at *
  generalize splitP p = sp at *
  generalize splitOk p = so at *
  have hfl' : (fl.size : Int) = 1 := by omega
  have hz := fun w => zero_blk w
  have HF := Lib.hid hF
  have HT := Lib.hid hT
  clear hF hT hfit hp hl hus hgr hfl
  go_enter Tryz.func34, Tryz.ntmps34
  go_wp2_with fail
  refine (H1.out _).mono ?_
  rintro e w1 ⟨rfl, hb⟩
  obtain ⟨k1, bb1, z1⟩ := one_new (e1 := ⟨k, p, l, m, u, g, t, us, gr, b⟩) hb
  have E1 := Lib.hid k1
  have B1 := Lib.hid bb1
  clear hb k1 bb1 H1
  go_wp2_with fail
  refine (H2.out _).mono ?_
  rintro e w2 ⟨rfl, rfl⟩
  have K0 := Lib.hid (Blk.new w1 (flat F0) (by rw [F0_flat]; exact List.length_replicate))
  rw [F0_flat] at K0
  generalize (Lib.byteCells zeros512).toArray = Z at hz K0
  have D0 := Lib.hid ((Below.refl w1.heap.size w1).alloc (Nat.le_refl _) (.cells Z 76))
  obtain ⟨c0, c1, c2, c3, c4, c5, c6, c7, c8, c9⟩ := (E1.out.below D0.out (by omega)).zero
  have T1 := Lib.hid (HT.out.below B1.out)
  have F1 := Lib.hid (HF.out.below B1.out)
  have hE : w.heap.size < w1.heap.size := by omega
  go_wp2_with fail
  refine (H3.out _).mono ?_
  rintro e w2 ⟨rfl, hb⟩
  have K := Lib.hid (show BlkF w2 w1.heap.size [nuls 100, nuls 8, nuls 8, nuls 8, nuls 12, nuls 12, nuls 8, nuls 1, nuls 100, nuls 8, nuls 32, nuls 32, nuls 8, nuls 8, nuls 155, nuls 12] from ⟨F0_wf, by show Blk w2 _ (flat F0); rw [F0_flat]; exact K0.out.below hb (by simp)⟩)
  have D := Lib.hid (D0.out.trans (hb.mono (by simp)))
  clear hb K0 D0 HF HT H2 H3 c0 c1 c2 c3 c4 c5 c6 c7 c8 c9

  go_wp2_with fail
  refine (put_t w1.heap.size 0 100 [nuls 100, nuls 8, nuls 8, nuls 8, nuls 12, nuls 12, nuls 8, nuls 1, nuls 100, nuls 8, nuls 32, nuls 32, nuls 8, nuls 8, nuls 155, nuls 12] sn _ (by omega) rfl rfl (by omega) (F1.out.below D.out) K.out).mono ?_
  rintro e w' ⟨rfl, hk, -, hb⟩
  replace D := Lib.hid (D.out.trans (hb _ (Nat.le_refl _)))
  replace K := Lib.hid (show BlkF w' _ [(fillv sn 100).data.toList, nuls 8, nuls 8, nuls 8, nuls 12, nuls 12, nuls 8, nuls 1, nuls 100, nuls 8, nuls 32, nuls 32, nuls 8, nuls 8, nuls 155, nuls 12] from hk)
  clear hk hb
  obtain ⟨_, _, _, c3, _, _, _, _, _, _⟩ := (E1.out.below D.out (by omega)).zero
  go_wp2_with fail
  refine (putNum_f w1.heap.size 1 8 [(fillv sn 100).data.toList, nuls 8, nuls 8, nuls 8, nuls 12, nuls 12, nuls 8, nuls 1, nuls 100, nuls 8, nuls 32, nuls 32, nuls 8, nuls 8, nuls 155, nuls 12] m _ (by omega) rfl (by omega) (by omega) (by omega) (by have : (8 : Nat) ^ (8 - 1) = 2097152 := (by decide); omega) rfl (T1.out.below D.out) (F1.out.below D.out) K.out).mono ?_
  rintro e w' ⟨rfl, hk, -, hb⟩
  replace D := Lib.hid (D.out.trans (hb _ (Nat.le_refl _)))
  replace K := Lib.hid (show BlkF w' _ [(fillv sn 100).data.toList, (octz m 8).data.toList, nuls 8, nuls 8, nuls 12, nuls 12, nuls 8, nuls 1, nuls 100, nuls 8, nuls 32, nuls 32, nuls 8, nuls 8, nuls 155, nuls 12] from hk)
  clear hk hb c3
  obtain ⟨_, _, _, _, c4, _, _, _, _, _⟩ := (E1.out.below D.out (by omega)).zero
  go_wp2_with fail
  refine (putNum_f w1.heap.size 2 8 [(fillv sn 100).data.toList, (octz m 8).data.toList, nuls 8, nuls 8, nuls 12, nuls 12, nuls 8, nuls 1, nuls 100, nuls 8, nuls 32, nuls 32, nuls 8, nuls 8, nuls 155, nuls 12] u _ (by omega) rfl (by omega) (by omega) (by omega) (by have : (8 : Nat) ^ (8 - 1) = 2097152 := (by decide); omega) rfl (T1.out.below D.out) (F1.out.below D.out) K.out).mono ?_
  rintro e w' ⟨rfl, hk, -, hb⟩
  replace D := Lib.hid (D.out.trans (hb _ (Nat.le_refl _)))
  replace K := Lib.hid (show BlkF w' _ [(fillv sn 100).data.toList, (octz m 8).data.toList, (octz u 8).data.toList, nuls 8, nuls 12, nuls 12, nuls 8, nuls 1, nuls 100, nuls 8, nuls 32, nuls 32, nuls 8, nuls 8, nuls 155, nuls 12] from hk)
  clear hk hb c4
  obtain ⟨_, _, _, _, _, c5, _, _, _, _⟩ := (E1.out.below D.out (by omega)).zero
  go_wp2_with fail
  refine (putNum_f w1.heap.size 3 8 [(fillv sn 100).data.toList, (octz m 8).data.toList, (octz u 8).data.toList, nuls 8, nuls 12, nuls 12, nuls 8, nuls 1, nuls 100, nuls 8, nuls 32, nuls 32, nuls 8, nuls 8, nuls 155, nuls 12] g _ (by omega) rfl (by omega) (by omega) (by omega) (by have : (8 : Nat) ^ (8 - 1) = 2097152 := (by decide); omega) rfl (T1.out.below D.out) (F1.out.below D.out) K.out).mono ?_
  rintro e w' ⟨rfl, hk, -, hb⟩
  replace D := Lib.hid (D.out.trans (hb _ (Nat.le_refl _)))
  replace K := Lib.hid (show BlkF w' _ [(fillv sn 100).data.toList, (octz m 8).data.toList, (octz u 8).data.toList, (octz g 8).data.toList, nuls 12, nuls 12, nuls 8, nuls 1, nuls 100, nuls 8, nuls 32, nuls 32, nuls 8, nuls 8, nuls 155, nuls 12] from hk)
  clear hk hb c5
  go_wp2_with fail
  refine (putNum_f w1.heap.size 4 12 [(fillv sn 100).data.toList, (octz m 8).data.toList, (octz u 8).data.toList, (octz g 8).data.toList, nuls 12, nuls 12, nuls 8, nuls 1, nuls 100, nuls 8, nuls 32, nuls 32, nuls 8, nuls 8, nuls 155, nuls 12] sz _ (by omega) rfl (by omega) (by omega) (by omega) (by have : (8 : Nat) ^ (12 - 1) = 8589934592 := (by decide); omega) rfl (T1.out.below D.out) (F1.out.below D.out) K.out).mono ?_
  rintro e w' ⟨rfl, hk, -, hb⟩
  replace D := Lib.hid (D.out.trans (hb _ (Nat.le_refl _)))
  replace K := Lib.hid (show BlkF w' _ [(fillv sn 100).data.toList, (octz m 8).data.toList, (octz u 8).data.toList, (octz g 8).data.toList, (octz sz 12).data.toList, nuls 12, nuls 8, nuls 1, nuls 100, nuls 8, nuls 32, nuls 32, nuls 8, nuls 8, nuls 155, nuls 12] from hk)
  clear hk hb
  obtain ⟨_, _, _, _, _, _, c6, _, _, _⟩ := (E1.out.below D.out (by omega)).zero
  go_wp2_with fail
  refine (putNum_f w1.heap.size 5 12 [(fillv sn 100).data.toList, (octz m 8).data.toList, (octz u 8).data.toList, (octz g 8).data.toList, (octz sz 12).data.toList, nuls 12, nuls 8, nuls 1, nuls 100, nuls 8, nuls 32, nuls 32, nuls 8, nuls 8, nuls 155, nuls 12] t _ (by omega) rfl (by omega) (by omega) (by omega) (by have : (8 : Nat) ^ (12 - 1) = 8589934592 := (by decide); omega) rfl (T1.out.below D.out) (F1.out.below D.out) K.out).mono ?_
  rintro e w' ⟨rfl, hk, -, hb⟩
  replace D := Lib.hid (D.out.trans (hb _ (Nat.le_refl _)))
  replace K := Lib.hid (show BlkF w' _ [(fillv sn 100).data.toList, (octz m 8).data.toList, (octz u 8).data.toList, (octz g 8).data.toList, (octz sz 12).data.toList, (octz t 12).data.toList, nuls 8, nuls 1, nuls 100, nuls 8, nuls 32, nuls 32, nuls 8, nuls 8, nuls 155, nuls 12] from hk)
  clear hk hb c6
  go_wp2_with fail
  refine (put_t w1.heap.size 7 1 [(fillv sn 100).data.toList, (octz m 8).data.toList, (octz u 8).data.toList, (octz g 8).data.toList, (octz sz 12).data.toList, (octz t 12).data.toList, nuls 8, nuls 1, nuls 100, nuls 8, nuls 32, nuls 32, nuls 8, nuls 8, nuls 155, nuls 12] fl _ (by omega) rfl rfl (by omega) (F1.out.below D.out) K.out).mono ?_
  rintro e w' ⟨rfl, hk, -, hb⟩
  replace D := Lib.hid (D.out.trans (hb _ (Nat.le_refl _)))
  replace K := Lib.hid (show BlkF w' _ [(fillv sn 100).data.toList, (octz m 8).data.toList, (octz u 8).data.toList, (octz g 8).data.toList, (octz sz 12).data.toList, (octz t 12).data.toList, nuls 8, (fillv fl 1).data.toList, nuls 100, nuls 8, nuls 32, nuls 32, nuls 8, nuls 8, nuls 155, nuls 12] from hk)
  clear hk hb
  obtain ⟨_, _, c2, _, _, _, _, _, _, _⟩ := (E1.out.below D.out (by omega)).zero
  go_wp2_with fail
  refine (put_t w1.heap.size 8 100 [(fillv sn 100).data.toList, (octz m 8).data.toList, (octz u 8).data.toList, (octz g 8).data.toList, (octz sz 12).data.toList, (octz t 12).data.toList, nuls 8, (fillv fl 1).data.toList, nuls 100, nuls 8, nuls 32, nuls 32, nuls 8, nuls 8, nuls 155, nuls 12] l _ (by omega) rfl rfl (by omega) (F1.out.below D.out) K.out).mono ?_
  rintro e w' ⟨rfl, hk, -, hb⟩
  replace D := Lib.hid (D.out.trans (hb _ (Nat.le_refl _)))
  replace K := Lib.hid (show BlkF w' _ [(fillv sn 100).data.toList, (octz m 8).data.toList, (octz u 8).data.toList, (octz g 8).data.toList, (octz sz 12).data.toList, (octz t 12).data.toList, nuls 8, (fillv fl 1).data.toList, (fillv l 100).data.toList, nuls 8, nuls 32, nuls 32, nuls 8, nuls 8, nuls 155, nuls 12] from hk)
  clear hk hb c2
  go_wp2_with fail
  refine (put_t w1.heap.size 9 8 [(fillv sn 100).data.toList, (octz m 8).data.toList, (octz u 8).data.toList, (octz g 8).data.toList, (octz sz 12).data.toList, (octz t 12).data.toList, nuls 8, (fillv fl 1).data.toList, (fillv l 100).data.toList, nuls 8, nuls 32, nuls 32, nuls 8, nuls 8, nuls 155, nuls 12] magicU _ (by omega) rfl rfl (by decide) (F1.out.below D.out) K.out).mono ?_
  rintro e w' ⟨rfl, hk, -, hb⟩
  replace D := Lib.hid (D.out.trans (hb _ (Nat.le_refl _)))
  replace K := Lib.hid (show BlkF w' _ [(fillv sn 100).data.toList, (octz m 8).data.toList, (octz u 8).data.toList, (octz g 8).data.toList, (octz sz 12).data.toList, (octz t 12).data.toList, nuls 8, (fillv fl 1).data.toList, (fillv l 100).data.toList, (fillv magicU 8).data.toList, nuls 32, nuls 32, nuls 8, nuls 8, nuls 155, nuls 12] from hk)
  clear hk hb
  obtain ⟨_, _, _, _, _, _, _, c7, _, _⟩ := (E1.out.below D.out (by omega)).zero
  go_wp2_with fail
  refine (put_t w1.heap.size 10 32 [(fillv sn 100).data.toList, (octz m 8).data.toList, (octz u 8).data.toList, (octz g 8).data.toList, (octz sz 12).data.toList, (octz t 12).data.toList, nuls 8, (fillv fl 1).data.toList, (fillv l 100).data.toList, (fillv magicU 8).data.toList, nuls 32, nuls 32, nuls 8, nuls 8, nuls 155, nuls 12] us _ (by omega) rfl rfl (by omega) (F1.out.below D.out) K.out).mono ?_
  rintro e w' ⟨rfl, hk, -, hb⟩
  replace D := Lib.hid (D.out.trans (hb _ (Nat.le_refl _)))
  replace K := Lib.hid (show BlkF w' _ [(fillv sn 100).data.toList, (octz m 8).data.toList, (octz u 8).data.toList, (octz g 8).data.toList, (octz sz 12).data.toList, (octz t 12).data.toList, nuls 8, (fillv fl 1).data.toList, (fillv l 100).data.toList, (fillv magicU 8).data.toList, (fillv us 32).data.toList, nuls 32, nuls 8, nuls 8, nuls 155, nuls 12] from hk)
  clear hk hb c7
  obtain ⟨_, _, _, _, _, _, _, _, c8, _⟩ := (E1.out.below D.out (by omega)).zero
  go_wp2_with fail
  refine (put_t w1.heap.size 11 32 [(fillv sn 100).data.toList, (octz m 8).data.toList, (octz u 8).data.toList, (octz g 8).data.toList, (octz sz 12).data.toList, (octz t 12).data.toList, nuls 8, (fillv fl 1).data.toList, (fillv l 100).data.toList, (fillv magicU 8).data.toList, (fillv us 32).data.toList, nuls 32, nuls 8, nuls 8, nuls 155, nuls 12] gr _ (by omega) rfl rfl (by omega) (F1.out.below D.out) K.out).mono ?_
  rintro e w' ⟨rfl, hk, -, hb⟩
  replace D := Lib.hid (D.out.trans (hb _ (Nat.le_refl _)))
  replace K := Lib.hid (show BlkF w' _ [(fillv sn 100).data.toList, (octz m 8).data.toList, (octz u 8).data.toList, (octz g 8).data.toList, (octz sz 12).data.toList, (octz t 12).data.toList, nuls 8, (fillv fl 1).data.toList, (fillv l 100).data.toList, (fillv magicU 8).data.toList, (fillv us 32).data.toList, (fillv gr 32).data.toList, nuls 8, nuls 8, nuls 155, nuls 12] from hk)
  clear hk hb c8
  go_wp2_with fail
  refine (putNum_f w1.heap.size 12 8 [(fillv sn 100).data.toList, (octz m 8).data.toList, (octz u 8).data.toList, (octz g 8).data.toList, (octz sz 12).data.toList, (octz t 12).data.toList, nuls 8, (fillv fl 1).data.toList, (fillv l 100).data.toList, (fillv magicU 8).data.toList, (fillv us 32).data.toList, (fillv gr 32).data.toList, nuls 8, nuls 8, nuls 155, nuls 12] 0 _ (by omega) rfl (by omega) (by omega) (by omega) (by decide) rfl (T1.out.below D.out) (F1.out.below D.out) K.out).mono ?_
  rintro e w' ⟨rfl, hk, -, hb⟩
  replace D := Lib.hid (D.out.trans (hb _ (Nat.le_refl _)))
  replace K := Lib.hid (show BlkF w' _ [(fillv sn 100).data.toList, (octz m 8).data.toList, (octz u 8).data.toList, (octz g 8).data.toList, (octz sz 12).data.toList, (octz t 12).data.toList, nuls 8, (fillv fl 1).data.toList, (fillv l 100).data.toList, (fillv magicU 8).data.toList, (fillv us 32).data.toList, (fillv gr 32).data.toList, (octz 0 8).data.toList, nuls 8, nuls 155, nuls 12] from hk)
  clear hk hb
  go_wp2_with fail
  refine (putNum_f w1.heap.size 13 8 [(fillv sn 100).data.toList, (octz m 8).data.toList, (octz u 8).data.toList, (octz g 8).data.toList, (octz sz 12).data.toList, (octz t 12).data.toList, nuls 8, (fillv fl 1).data.toList, (fillv l 100).data.toList, (fillv magicU 8).data.toList, (fillv us 32).data.toList, (fillv gr 32).data.toList, (octz 0 8).data.toList, nuls 8, nuls 155, nuls 12] 0 _ (by omega) rfl (by omega) (by omega) (by omega) (by decide) rfl (T1.out.below D.out) (F1.out.below D.out) K.out).mono ?_
  rintro e w' ⟨rfl, hk, -, hb⟩
  replace D := Lib.hid (D.out.trans (hb _ (Nat.le_refl _)))
  replace K := Lib.hid (show BlkF w' _ [(fillv sn 100).data.toList, (octz m 8).data.toList, (octz u 8).data.toList, (octz g 8).data.toList, (octz sz 12).data.toList, (octz t 12).data.toList, nuls 8, (fillv fl 1).data.toList, (fillv l 100).data.toList, (fillv magicU 8).data.toList, (fillv us 32).data.toList, (fillv gr 32).data.toList, (octz 0 8).data.toList, (octz 0 8).data.toList, nuls 155, nuls 12] from hk)
  clear hk hb
  go_wp2_with fail
  refine (put_t w1.heap.size 14 155 [(fillv sn 100).data.toList, (octz m 8).data.toList, (octz u 8).data.toList, (octz g 8).data.toList, (octz sz 12).data.toList, (octz t 12).data.toList, nuls 8, (fillv fl 1).data.toList, (fillv l 100).data.toList, (fillv magicU 8).data.toList, (fillv us 32).data.toList, (fillv gr 32).data.toList, (octz 0 8).data.toList, (octz 0 8).data.toList, nuls 155, nuls 12] sp _ (by omega) rfl rfl (by omega) (F1.out.below D.out) K.out).mono ?_
  rintro e w' ⟨rfl, hk, -, hb⟩
  replace D := Lib.hid (D.out.trans (hb _ (Nat.le_refl _)))
  replace K := Lib.hid (show BlkF w' _ [(fillv sn 100).data.toList, (octz m 8).data.toList, (octz u 8).data.toList, (octz g 8).data.toList, (octz sz 12).data.toList, (octz t 12).data.toList, nuls 8, (fillv fl 1).data.toList, (fillv l 100).data.toList, (fillv magicU 8).data.toList, (fillv us 32).data.toList, (fillv gr 32).data.toList, (octz 0 8).data.toList, (octz 0 8).data.toList, (fillv sp 155).data.toList, nuls 12] from hk)
  clear hk hb
  have e7 : fillv fl 1 = fl := by rw [fillv, if_pos (.inr (by omega))]
  have e9 : fillv magicU 8 = magicU := by decide
  replace K := Lib.hid (show BlkF _ _ [(fillv sn 100).data.toList, (octz m 8).data.toList, (octz u 8).data.toList, (octz g 8).data.toList, (octz sz 12).data.toList, (octz t 12).data.toList, nuls 8, fl.data.toList, (fillv l 100).data.toList, magicU.data.toList, (fillv us 32).data.toList, (fillv gr 32).data.toList, (octz 0 8).data.toList, (octz 0 8).data.toList, (fillv sp 155).data.toList, nuls 12] by have h := K.out; rw [e7, e9] at h; exact h)
  clear e7 e9
  have hc := K.out.2.conv
  have hKl := K.out.2.1
  obtain ⟨X, hX⟩ : ∃ X, X = flat [(fillv sn 100).data.toList, (octz m 8).data.toList, (octz u 8).data.toList, (octz g 8).data.toList, (octz sz 12).data.toList, (octz t 12).data.toList, nuls 8, fl.data.toList, (fillv l 100).data.toList, magicU.data.toList, (fillv us 32).data.toList, (fillv gr 32).data.toList, (octz 0 8).data.toList, (octz 0 8).data.toList, (fillv sp 155).data.toList, nuls 12] := ⟨_, rfl⟩
  rw [← hX] at hc hKl
  have HS := Lib.hid (fun w hT hF => sumText_any ⟨X.toArray⟩ w (by rw [ba_size]; omega) hT hF)
  have lens := K.out.1
  simp only [WF, List.map_cons, List.map_nil, widths, List.cons_append, List.nil_append, List.cons.injEq] at lens
  have lA : hA.data.toList.length = 148 := by
    rw [HA.out]
    simp only [List.length_append]
    omega
  have lB : hB.data.toList.length = 356 := by
    rw [HB.out]
    simp only [List.length_append]
    omega
  have HXe : Hid (headSumv ⟨X.toArray⟩ = sumv hA.data.toList + 256 + sumv hB.data.toList) := Lib.hid (by
    rw [← head_sum lA lB, hX, HA.out, HB.out]
    simp [flat])
  rw [HXe.out] at HS
  have bd := headSum_bd ⟨X.toArray⟩
  rw [HXe.out] at bd
  have bA := sumv_bd hA.data.toList
  have bB := sumv_bd hB.data.toList
  have bs : 0 ≤ sumv hA.data.toList + 256 + sumv hB.data.toList := by omega
  generalize sumv hA.data.toList + 256 + sumv hB.data.toList = sm at HS bd bs HV
  obtain ⟨_, zd, _⟩ := oct_fits (n := sm) (k := 6) (by omega) (by omega) (by omega) (by have : (8 : Nat) ^ 6 = 262144 := (by decide); omega)
  have zd' : (putOctv sm 6).1.size = 6 := zd
  have HST : Hid ((fillv ((putOctv sm 6).1 ++ ⟨#[0, 32]⟩) 8) = (putOctv sm 6).1 ++ ⟨#[0, 32]⟩) := Lib.hid (by rw [fillv, if_pos (.inr (by rw [ByteArray.size_append, zd']; decide))])
  have zst : ((putOctv sm 6).1 ++ (⟨#[0, 32]⟩ : ByteArray)).size ≤ 8 := by rw [ByteArray.size_append, zd']; decide
  have HR : Hid (∀ F : List UInt8, F = flat [(fillv sn 100).data.toList, (octz m 8).data.toList, (octz u 8).data.toList, (octz g 8).data.toList, (octz sz 12).data.toList, (octz t 12).data.toList, ((putOctv sm 6).1 ++ (⟨#[0, 32]⟩ : ByteArray)).data.toList, fl.data.toList, (fillv l 100).data.toList, magicU.data.toList, (fillv us 32).data.toList, (fillv gr 32).data.toList, (octz 0 8).data.toList, (octz 0 8).data.toList, (fillv sp 155).data.toList, nuls 12] → (⟨F.toArray⟩ : ByteArray) = r) := Lib.hid (by
    rintro F rfl
    apply ba_ext
    rw [HV.out]
    simp only [ByteArray.data_append, Array.toList_append, HA.out, HB.out]
    simp [flat])
  generalize (putOctv sm 6).1 ++ (⟨#[0, 32]⟩ : ByteArray) = st at *
  clear HV HA HB HXe hX lens lA lB bA bB bd zd zd' hKl
  go_wp2_with fail
  refine (HS.out _ (T1.out.below D.out) (F1.out.below D.out)).mono ?_
  rintro e w3 ⟨rfl, hb⟩
  have K3 := Lib.hid (K.out.below hb K.out.2.lt)
  have D3 := Lib.hid (D.out.trans (hb.mono D.out.size))
  clear hb hc K D
  go_wp2_with fail
  refine (put_t w1.heap.size 6 8 _ st _ (by omega) rfl rfl zst (F1.out.below D3.out) K3.out).mono ?_
  rintro e w4 ⟨rfl, hk, -, hb⟩
  have D4 := Lib.hid (D3.out.trans (hb _ (Nat.le_refl _)))
  rw [show fillv st ((8 : Nat) : Int) = st from HST.out] at hk
  have hc := (hk.2.conv).trans (congrArg (fun x => Result.ok (Value.string x) w4) (HR.out _ rfl))
  clear hk hb D3 K3 HS
  go_wp2
  go_ret
  exact ⟨rfl, B1.out.trans (D4.out.mono B1.out.size)⟩
theorem putHead_no {e : Ent} {flag : ByteArray} {size : Int} (h : ¬ (fitsv e = true ∧ flag.size = 1 ∧ (0 ≤ size ∧ size ≤ 3000))) : putHeadv e flag size = ⟨#[]⟩ := by rw [putHeadv, if_neg h]
set_option maxHeartbeats 1600000 in
theorem putHead_impl (k : Int) (p l : ByteArray) (m u g t : Int) (us gr b fl : ByteArray) (sz : Int) (w : World) (hp : p.size ≤ 4194304) (hl : l.size ≤ 4194304) (hus : us.size ≤ 4194304) (hgr : gr.size ≤ 4194304) (hT : Tabs w) (hF : FW w) :
    Calls Tryz.prog 34 #[.agg #[.int .i64 k, .string p, .string l, .int .i64 m, .int .i64 u, .int .i64 g, .int .i64 t, .string us, .string gr, .string b], .string fl, .int .i64 sz] w fun e w' => e = .returned (.string (putHeadv ⟨k, p, l, m, u, g, t, us, gr, b⟩ fl sz)) ∧ Below w.heap.size w w' := by
  by_cases hy : fitsv ⟨k, p, l, m, u, g, t, us, gr, b⟩ = true ∧ fl.size = 1 ∧ (0 ≤ sz ∧ sz ≤ 3000)
  · rw [putHeadv, if_pos hy]
    exact putHead_yes k p l m u g t us gr b fl sz w hp hl hus hgr hy.1 hy.2.1 hy.2.2 hT hF
  · have HE := Lib.hid (putHead_no hy)
    have H1 := Lib.hid (fun w => fits_impl k p l m u g t us gr b w hp hl hus hgr)
    have H2 := Lib.hid (fun w => upTo_any sz 3000 w)
    generalize putHeadv ⟨k, p, l, m, u, g, t, us, gr, b⟩ fl sz = r at HE
    generalize fitsv ⟨k, p, l, m, u, g, t, us, gr, b⟩ = bf at H1 hy
    clear hT hF hp hl hus hgr
    cases bf with
    | false =>
      clear hy
      go_enter Tryz.func34, Tryz.ntmps34
      go_wp2_with fail
      refine (H1.out _).mono ?_
      rintro e w1 ⟨rfl, hb⟩
      obtain ⟨-, bb1, -⟩ := one_new (e1 := ⟨k, p, l, m, u, g, t, us, gr, b⟩) hb
      have B1 := Lib.hid bb1
      clear hb bb1
      go_wp2
      go_ret
      exact ⟨ret_str HE.out.symm, B1.out⟩
    | true =>
      by_cases h1 : (fl.size : Int) = 1
      · have h2 : inB sz 0 3000 = false := inB_f (fun h => hy ⟨rfl, by omega, h⟩)
        rw [h2] at H2
        clear hy h2
        go_enter Tryz.func34, Tryz.ntmps34
        go_wp2_with fail
        refine (H1.out _).mono ?_
        rintro e w1 ⟨rfl, hb⟩
        obtain ⟨-, bb1, -⟩ := one_new (e1 := ⟨k, p, l, m, u, g, t, us, gr, b⟩) hb
        have B1 := Lib.hid bb1
        clear hb bb1
        go_wp2_with fail
        refine (H2.out _).mono ?_
        rintro e w2 ⟨rfl, rfl⟩
        go_wp2
        go_ret
        exact ⟨ret_str HE.out.symm, B1.out⟩
      · clear hy
        go_enter Tryz.func34, Tryz.ntmps34
        go_wp2_with fail
        refine (H1.out _).mono ?_
        rintro e w1 ⟨rfl, hb⟩
        obtain ⟨-, bb1, -⟩ := one_new (e1 := ⟨k, p, l, m, u, g, t, us, gr, b⟩) hb
        have B1 := Lib.hid bb1
        clear hb bb1
        go_wp2
        go_ret
        exact ⟨ret_str HE.out.symm, B1.out⟩
end Go.Proofs.YtkpdeeembnjmnabGreatDoor

/- Contracts of spec.Flag, impl.Flag, spec.Kind, impl.Kind. -/
namespace Go.Proofs.YtkpdeeembnjmnabGreatDoor
open Go.ChangeShapes Go.WideShapes Go.ChangeAt Go.RowKit

def flagv (k : Int) : ByteArray := if k = 0 then ⟨#[48]⟩ else if k = 1 then ⟨#[53]⟩ else if k = 2 then ⟨#[50]⟩ else if k = 3 then ⟨#[49]⟩ else ⟨#[]⟩
def kindv (s : ByteArray) : Int := if s = ⟨#[48]⟩ then 0 else if s = ⟨#[53]⟩ then 1 else if s = ⟨#[50]⟩ then 2 else if s = ⟨#[49]⟩ then 3 else -1
theorem flag_out {k : Int} (h : ¬ (0 ≤ k ∧ k ≤ 3)) : flagv k = ⟨#[]⟩ := by
  unfold flagv
  rw [if_neg (by omega), if_neg (by omega), if_neg (by omega), if_neg (by omega)]
theorem four {k : Int} (h : 0 ≤ k ∧ k ≤ 3) : k = 0 ∨ k = 1 ∨ k = 2 ∨ k = 3 := by omega

theorem flag_spec (k : Int) (w : World) :
    Calls Tryz.prog 29 #[.int .i64 k] w fun e w' => e = .returned (.string (flagv k)) ∧ Below w.heap.size w w' := by
  by_cases h : 0 ≤ k ∧ k ≤ 3
  · have Ha := Lib.hid (fun w => in_any k 0 3 w)
    rw [inB_t h] at Ha
    rcases four h with rfl | rfl | rfl | rfl
    all_goals
      go_enter Tryz.func29, Tryz.ntmps29
      go_wp2_with fail
      refine (Ha.out _).mono ?_
      rintro e w3 ⟨rfl, rfl⟩
      go_wp2_with fail
      go_ret
      exact ⟨rfl, (Below.refl _ _).alloc (Nat.le_refl _) _⟩
  · have Ha := Lib.hid (fun w => in_any k 0 3 w)
    rw [inB_f h] at Ha
    have HE := Lib.hid (flag_out h)
    clear h
    go_enter Tryz.func29, Tryz.ntmps29
    go_wp2_with fail
    refine (Ha.out _).mono ?_
    rintro e w3 ⟨rfl, rfl⟩
    go_wp2_with fail
    go_ret
    exact ⟨ret_str HE.out.symm, Below.refl _ _⟩
theorem flag_impl (k : Int) (w : World) :
    Calls Tryz.prog 35 #[.int .i64 k] w fun e w' => e = .returned (.string (flagv k)) ∧ w = w' := by
  by_cases h : 0 ≤ k ∧ k ≤ 3
  · rcases four h with rfl | rfl | rfl | rfl
    all_goals
      go_enter Tryz.func35, Tryz.ntmps35
      go_wp2_with fail
      go_ret
      exact ⟨rfl, rfl⟩
  · have HE := Lib.hid (flag_out h)
    by_cases h1 : k < 0
    · clear h
      go_enter Tryz.func35, Tryz.ntmps35
      go_wp2_with fail
      go_ret
      exact ⟨ret_str HE.out.symm, rfl⟩
    · have h2 : 4 ≤ k := by omega
      clear h
      go_enter Tryz.func35, Tryz.ntmps35
      go_wp2_with fail
      go_ret
      exact ⟨ret_str HE.out.symm, rfl⟩

theorem kind_at {s : ByteArray} {k : Nat} (hk : k < 4) (h : flagv k = s) : kindv s = k := by
  subst h
  match k, hk with
  | 0, _ => decide
  | 1, _ => decide
  | 2, _ => decide
  | 3, _ => decide
theorem kind_none {s : ByteArray} (h : ∀ j : Nat, j < 4 → ¬ flagv j = s) : kindv s = -1 := by
  have h0 := h 0 (by omega)
  have h1 := h 1 (by omega)
  have h2 := h 2 (by omega)
  have h3 := h 3 (by omega)
  unfold kindv
  rw [if_neg (fun e => h0 (by rw [e]; rfl)), if_neg (fun e => h1 (by rw [e]; rfl)), if_neg (fun e => h2 (by rw [e]; rfl)), if_neg (fun e => h3 (by rw [e]; rfl))]
theorem kind_spec (s : ByteArray) (w : World) :
    Calls Tryz.prog 50 #[.string s] w fun e w' => e = .returned (.int .i64 (kindv s)) ∧ Below w.heap.size w w' := by
  go_enter Tryz.func50, Tryz.ntmps50
  go_wp2
  go_loopw [3] (fun i wr => ∃ k : Nat, k ≤ 4 ∧ i = .int .i64 k ∧ (∀ j : Nat, j < k → ¬ flagv j = s) ∧ Below w.heap.size w wr) (fun i _ => 4 - (intOf i).toNat)
  case atStart => exact ⟨0, by omega, rfl, fun j h => absurd h (by omega), Below.refl _ _⟩
  case round =>
    obtain ⟨k, hk, rfl, hn, hb⟩ := hrel
    have HB := Lib.hid hb
    have HN := Lib.hid hn
    clear hb hn
    by_cases hlt : (k : Int) < 4
    · have HF := Lib.hid (fun w => flag_spec k w)
      by_cases hf : flagv k = s
      · have HE := Lib.hid (kind_at (by omega) hf)
        have q := ba_eq hf
        generalize flagv k = f at HF q
        clear hf
        go_wp2_with fail
        refine (HF.out _).mono ?_
        rintro e w1 ⟨rfl, hb1⟩
        go_wp2_with fail
        go_ret
        exact ⟨ret_int HE.out.symm, HB.out.trans (hb1.mono HB.out.size)⟩
      · have HE : Hid (∀ j : Nat, j < k + 1 → ¬ flagv j = s) := Lib.hid (fun j hj => by
          by_cases e : j = k
          · subst e; exact hf
          · exact HN.out j (by omega))
        have q := ba_ne hf
        generalize flagv k = f at HF q
        clear hf
        go_wp2_with fail
        refine (HF.out _).mono ?_
        rintro e w1 ⟨rfl, hb1⟩
        have HB1 := Lib.hid (HB.out.trans (hb1.mono HB.out.size))
        clear hb1
        go_wp2_with fail
        go_roundw
        case rel => exact ⟨k + 1, by omega, by go_num, HE.out, HB1.out⟩
        case measure => simp [intOf]; omega
    · have HE := Lib.hid (kind_none (s := s) (fun j hj => HN.out j (by omega)))
      go_wp2
      go_ret
      exact ⟨ret_int HE.out.symm, HB.out⟩
theorem one_byte {s : ByteArray} (h : s.size = 1) : ∃ c, s = ⟨#[c]⟩ := by
  have hl : s.data.toList.length = 1 := by simpa using h
  match hd : s.data.toList, hl with
  | [c], _ => exact ⟨c, ba_ext hd⟩
theorem kind_one (c : UInt8) : Lib.indexByte [48, 53, 50, 49] c = kindv ⟨#[c]⟩ := by
  have key : ∀ d : UInt8, ((⟨#[c]⟩ : ByteArray) = ⟨#[d]⟩) ↔ c = d := fun d => by simp
  unfold kindv
  simp only [key, Lib.indexByte]
  by_cases h0 : c = 48
  · subst h0; rfl
  by_cases h1 : c = 53
  · subst h1; rfl
  by_cases h2 : c = 50
  · subst h2; rfl
  by_cases h3 : c = 49
  · subst h3; rfl
  simp [h0, h1, h2, h3, Ne.symm h0, Ne.symm h1, Ne.symm h2, Ne.symm h3]
theorem kind_impl (s : ByteArray) (w : World) :
    Calls Tryz.prog 55 #[.string s] w fun e w' => e = .returned (.int .i64 (kindv s)) ∧ w = w' := by
  by_cases h : s.size = 1
  · obtain ⟨c, rfl⟩ := one_byte h
    have H := Lib.hid (fun w => Tryz.strings_Index_one ⟨#[48, 53, 50, 49]⟩ c w)
    rw [show (⟨#[48, 53, 50, 49]⟩ : ByteArray).data.toList = [48, 53, 50, 49] from rfl, kind_one] at H
    generalize kindv ⟨#[c]⟩ = r at H
    clear h
    go_enter Tryz.func55, Tryz.ntmps55
    go_wp2_with fail
    refine (H.out _).mono ?_
    rintro e w1 ⟨rfl, rfl⟩
    go_wp2_with fail
    go_ret
    exact ⟨rfl, rfl⟩
  · have HE : Hid (kindv s = -1) := Lib.hid (by
      unfold kindv
      rw [if_neg, if_neg, if_neg, if_neg]
      all_goals (intro e; subst e; exact h rfl))
    have h1 : ¬ (s.size : Int) = 1 := by omega
    generalize kindv s = r at HE
    clear h
    go_enter Tryz.func55, Tryz.ntmps55
    go_wp2_with fail
    go_ret
    exact ⟨ret_int HE.out.symm, rfl⟩
end Go.Proofs.YtkpdeeembnjmnabGreatDoor

/- Contracts of spec.Pad, impl.Pad and the law laws.FnExactPad: what each returns for every argument, the world unchanged. -/
namespace Go.Proofs.YtkpdeeembnjmnabGreatDoor
open Go.ChangeShapes Go.WideShapes Go.ChangeAt Go.RowKit

def padv (n u : Int) : Int := if 0 ≤ n ∧ n ≤ 9007199254740991 ∧ 1 ≤ u ∧ u ≤ 512 then (u - n % u) % u else 0

theorem pad_impl (n u : Int) (w : World) : Calls Tryz.prog 37 #[.int .i64 n, .int .i64 u] w fun e w' => e = .returned (.int .i64 (padv n u)) ∧ w = w' := by
  by_cases h1 : 0 ≤ n
  · by_cases h2 : n ≤ 9007199254740991
    · by_cases h3 : 1 ≤ u
      · by_cases h4 : u ≤ 512
        · have hm := Int.emod_nonneg n (show u ≠ 0 by omega)
          have hl := Int.emod_lt_of_pos n (show 0 < u by omega)
          go_enter Tryz.func37, Tryz.ntmps37
          go_wp2
          go_ret
          exact ⟨ret_int (by simp [padv, *]), rfl⟩
        · go_enter Tryz.func37, Tryz.ntmps37
          go_wp2
          go_ret
          exact ⟨ret_int (by simp [padv]; omega), rfl⟩
      · go_enter Tryz.func37, Tryz.ntmps37
        go_wp2
        go_ret
        exact ⟨ret_int (by simp [padv]; omega), rfl⟩
    · go_enter Tryz.func37, Tryz.ntmps37
      go_wp2
      go_ret
      exact ⟨ret_int (by simp [padv]; omega), rfl⟩
  · go_enter Tryz.func37, Tryz.ntmps37
    go_wp2
    go_ret
    exact ⟨ret_int (by simp [padv]; omega), rfl⟩


theorem pad_spec (n u : Int) (w : World) : Calls Tryz.prog 59 #[.int .i64 n, .int .i64 u] w fun e w' => e = .returned (.int .i64 (padv n u)) ∧ w = w' := by
  by_cases h1 : 0 ≤ n ∧ n ≤ 9007199254740991
  · have i1 := inB_t h1
    by_cases h2 : 1 ≤ u ∧ u ≤ 512
    · have i2 := inB_t h2
      have hm := Int.emod_nonneg n (show u ≠ 0 by omega)
      have hl := Int.emod_lt_of_pos n (show 0 < u by omega)
      by_cases h3 : n % u = 0
      · have hz : (n % u == 0) = true := by simp [h3]
        have H := Lib.hid h3
        clear h3
        go_enter Tryz.func59, Tryz.ntmps59
        go_wp2_with (go_at_call 47; refine (in_any _ _ _ _).mono ?_; rintro e w' ⟨rfl, rfl⟩)
        go_ret
        exact ⟨ret_int (by simp [padv, H.out]), rfl⟩
      · have hz : (n % u == 0) = false := by simp [h3]
        go_enter Tryz.func59, Tryz.ntmps59
        go_wp2_with (go_at_call 47; refine (in_any _ _ _ _).mono ?_; rintro e w' ⟨rfl, rfl⟩)
        go_ret
        refine ⟨ret_int ?_, rfl⟩
        rw [padv, if_pos (by omega)]
        exact (Int.emod_eq_of_lt (a := u - n % u) (by omega) (by omega)).symm
    · have i2 := inB_f h2
      go_enter Tryz.func59, Tryz.ntmps59
      go_wp2_with (go_at_call 47; refine (in_any _ _ _ _).mono ?_; rintro e w' ⟨rfl, rfl⟩)
      go_ret
      exact ⟨ret_int (by simp [padv]; omega), rfl⟩
  · have i1 := inB_f h1
    go_enter Tryz.func59, Tryz.ntmps59
    go_wp2_with (go_at_call 47; refine (in_any _ _ _ _).mono ?_; rintro e w' ⟨rfl, rfl⟩)
    go_ret
    exact ⟨ret_int (by simp [padv]; omega), rfl⟩

end Go.Proofs.YtkpdeeembnjmnabGreatDoor
