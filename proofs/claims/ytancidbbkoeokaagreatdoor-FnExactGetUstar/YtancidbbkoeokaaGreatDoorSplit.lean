/- Contracts of spec.Split and impl.Split. -/
import Derived.Test.YtancidbbkoeokaaGreatDoorSplitMath
import Derived.Test.YtancidbbkoeokaaGreatDoorClone
import Derived.Deep.RegionHeld3
namespace Go.Proofs.YtancidbbkoeokaaGreatDoor
open Go.RowKit Go.Shelf

theorem ret_split {a b c d : ByteArray} {x y : Bool} (h1 : a = c) (h2 : b = d) (h3 : x = y) : Ending.returned (.tuple #[.string a, .string b, .bool x]) = .returned (.tuple #[.string c, .string d, .bool y]) := by rw [h1, h2, h3]
theorem bl_sp {w x w1 : World} (h1 : Below x.heap.size x w1) (os : x.os = w.os) (tape : x.tape = w.tape) (out : x.output = w.output) (hs : w.heap.size ≤ x.heap.size) (hb : ∀ k, k < w.heap.size → x.heap[k]? = w.heap[k]?) : Below w.heap.size w w1 :=
  ⟨h1.os.trans os, h1.tape.trans tape, h1.output.trans out, Nat.le_trans hs h1.size, fun k hk => (h1.block k (Nat.lt_of_lt_of_le hk hs)).trans (hb k hk)⟩
set_option maxHeartbeats 1600000 in
theorem split_spec (s : ByteArray) (w : World) (hs : s.size ≤ 4194304) :
    Calls Tryz.prog 67 #[.string s] w fun e w' => e = .returned (.tuple #[.string (splitP s), .string (splitN s), .bool (splitOk s)]) ∧ Below w.heap.size w w' := by
  have H1 := Lib.hid (fun w => pathOk_spec s w (by omega))
  cases hp : pathOkv s with
  | false =>
    have HO := Lib.hid (split_bad hp)
    have HE := Lib.hid (split_no HO.out)
    rw [hp] at H1
    clear hp
    generalize splitOk s = o at HO
    generalize splitP s = p at HE
    generalize splitN s = n at HE
    go_enter Tryz.func67, Tryz.ntmps67
    go_wp2_with fail
    refine (H1.out _).mono ?_
    rintro e w1 ⟨rfl, hb1⟩
    go_wp2_with fail
    go_ret3
    exact ⟨ret_split HE.out.1.symm HE.out.2.symm HO.out.symm, hb1⟩
  | true =>
    rw [hp] at H1
    by_cases h100 : (s.size : Int) ≤ 100
    · have HE := Lib.hid (split_short hp (by omega))
      clear hp
      generalize splitOk s = o at HE
      generalize splitP s = p at HE
      generalize splitN s = n at HE
      go_enter Tryz.func67, Tryz.ntmps67
      go_wp2_with fail
      refine (H1.out _).mono ?_
      rintro e w1 ⟨rfl, hb1⟩
      go_wp2_with fail
      go_ret3
      exact ⟨ret_split HE.out.2.1.symm HE.out.2.2.symm HE.out.1.symm, hb1⟩
    · obtain ⟨_, hge, hlt, hat, hno⟩ := slash_there hp (by omega)
      have HAT := Lib.hid hat
      have HNO := Lib.hid hno
      have HF := Lib.hid (fun h => split_far (s := s) (by omega) h)
      have HFN := Lib.hid (fun h => split_no (s := s) h)
      have HG := Lib.hid (fun h => split_long hp (by omega) h)
      clear hat hno hp
      generalize splitOk s = o at HF HG HFN
      generalize splitP s = p at HG HFN
      generalize splitN s = n at HG HFN
      generalize slashv s = sl at *
      go_enter Tryz.func67, Tryz.ntmps67
      go_wp2_with fail
      refine (H1.out _).mono ?_
      rintro e w1 ⟨rfl, hb1⟩
      have HB := Lib.hid hb1
      clear hb1
      go_wp2
      go_loop [5] (fun i => ∃ k : Nat, k ≤ sl ∧ i = .int .i64 k) (fun i => s.size - (intOf i).toNat)
      case atStart => exact ⟨0, Nat.zero_le _, rfl⟩
      case round =>
        obtain ⟨k, hk, rfl⟩ := hrel
        have hkk : k < s.size := by omega
        by_cases he : k = sl
        · subst he
          have hc : s[k] = 47 := HAT.out hkk
          have hc' : (((s[k].toNat : Nat) : Int) == 47) = true := by rw [hc]; rfl
          have q1 : (s.size : Int) - k - 1 ≤ 100 := by omega
          have c1 : (0 : Int) ≤ ↑k := by omega
          have c2 : (↑k : Int) ≤ ↑s.size := by omega
          have c3 : (0 : Int) ≤ ↑k + 1 := by omega
          have c4 : (↑k + 1 : Int) ≤ ↑s.size := by omega
          clear hc
          by_cases hf : (k : Int) ≤ 155
          · have HE := Lib.hid (HG.out (by omega))
            clear HG HF HFN HAT HNO
            go_wp2_with fail
            go_region
            go_wp2
            go_ret3
            exact ⟨ret_split HE.out.2.1.symm HE.out.2.2.symm HE.out.1.symm, ⟨HB.out.os, HB.out.tape, HB.out.output, HB.out.size, HB.out.block⟩⟩
          · have HO := Lib.hid (HF.out (by omega))
            have HE := Lib.hid (HFN.out HO.out)
            clear HG HF HFN HAT HNO
            go_wp2_with fail
            go_ret3
            exact ⟨ret_split HE.out.1.symm HE.out.2.symm HO.out.symm, HB.out⟩
        · by_cases hc : s[k] = 47
          · have hc' : (((s[k].toNat : Nat) : Int) == 47) = true := by rw [hc]; rfl
            have q1 : ¬ (s.size : Int) - k - 1 ≤ 100 := by
              intro h
              exact HNO.out k hkk (by omega) (by omega) hc
            clear hc HG HF HFN HAT HNO
            go_wp2_with fail
            go_round
            case rel => exact ⟨k + 1, by omega, by go_num⟩
            case measure => simp [intOf]; omega
          · have hc' : (((s[k].toNat : Nat) : Int) == 47) = false := by
              have : s[k].toNat ≠ 47 := fun e => hc (UInt8.toNat_inj.1 (by simpa using e))
              simp; omega
            clear hc HG HF HFN HAT HNO
            go_wp2_with fail
            go_round
            case rel => exact ⟨k + 1, by omega, by go_num⟩
            case measure => simp [intOf]; omega

set_option maxHeartbeats 1600000 in
theorem split_impl (s : ByteArray) (w : World) (hs : s.size ≤ 4194304) :
    Calls Tryz.prog 79 #[.string s] w fun e w' => e = .returned (.tuple #[.string (splitP s), .string (splitN s), .bool (splitOk s)]) ∧ Below w.heap.size w w' := by
  have H1 := Lib.hid (fun w => pathOk_impl s w (by omega))
  cases hp : pathOkv s with
  | false =>
    have HO := Lib.hid (split_bad hp)
    have HE := Lib.hid (split_no HO.out)
    rw [hp] at H1
    clear hp
    generalize splitOk s = o at HO
    generalize splitP s = p at HE
    generalize splitN s = n at HE
    go_enter Tryz.func79, Tryz.ntmps79
    go_wp2_with fail
    refine (H1.out _).mono ?_
    rintro e w1 ⟨rfl, hb1⟩
    go_wp2_with fail
    go_ret3
    exact ⟨ret_split HE.out.1.symm HE.out.2.symm HO.out.symm, hb1⟩
  | true =>
    rw [hp] at H1
    by_cases h100 : (s.size : Int) ≤ 100
    · have HE := Lib.hid (split_short hp (by omega))
      have HC := Lib.hid (fun w => clone_any s w (by omega))
      clear hp
      generalize splitOk s = o at HE
      generalize splitP s = p at HE
      generalize splitN s = n at HE
      go_enter Tryz.func79, Tryz.ntmps79
      go_wp2_with fail
      refine (H1.out _).mono ?_
      rintro e w1 ⟨rfl, hb1⟩
      go_wp2_with fail
      refine (HC.out _).mono ?_
      rintro e w2 ⟨rfl, hb2⟩
      go_wp2_with fail
      go_ret3
      exact ⟨ret_split HE.out.2.1.symm HE.out.2.2.symm HE.out.1.symm, hb1.trans (hb2.mono hb1.size)⟩
    · obtain ⟨hix, hge, hlt, -, -⟩ := slash_there hp (by omega)
      have HF := Lib.hid (fun h => split_far (s := s) (by omega) h)
      have HFN := Lib.hid (fun h => split_no (s := s) h)
      have HG := Lib.hid (fun h => split_long hp (by omega) h)
      have HX := Lib.hid (fun w => Tryz.strings_IndexByte (s.extract (s.size - 101) s.size) 47 w)
      have ed : (s.extract (s.size - 101) s.size).data.toList = s.data.toList.drop (s.size - 101) := by
        simp
        rw [List.take_of_length_le (by simp)]
      rw [ed, show (47 : Int).toNat.toUInt8 = 47 from rfl, hix] at HX
      have HC := Lib.hid (fun a b w => clone_any (s.extract a b) w (by rw [ByteArray.size_extract]; omega))
      clear hix hp ed
      generalize splitOk s = o at HF HG HFN
      generalize splitP s = p at HG HFN
      generalize splitN s = n at HG HFN
      generalize slashv s = sl at *
      obtain ⟨f, hf⟩ : ∃ f : Nat, s.size = f + 101 := ⟨s.size - 101, by omega⟩
      rw [show s.size - 101 = f from by omega] at HX hge
      have c0 : (s.size : Int) - 100 - 1 = (f : Int) := by omega
      have c1 : (0 : Int) ≤ ↑f := by omega
      have c2 : (↑f : Int) ≤ ↑s.size := by omega
      have c5 : (f : Int) + ((sl - f : Nat) : Int) = (sl : Int) := by omega
      have HS := Lib.hid hf
      clear hf
      go_enter Tryz.func79, Tryz.ntmps79
      go_wp2_with fail
      refine (H1.out _).mono ?_
      rintro e w1 ⟨rfl, hb1⟩
      have HB := Lib.hid hb1
      clear hb1
      go_wp2_with fail
      refine (HX.out _).mono ?_
      rintro e w2 ⟨rfl, rfl⟩
      by_cases hq : (sl : Int) ≤ 155
      · have HE := Lib.hid (HG.out (by omega))
        clear HG HF HFN
        go_wp2_with fail
        have c7 : (0 : Int) ≤ ↑sl + 1 := by omega
        have c8 : (↑sl + 1 : Int) ≤ ↑s.size := by omega
        have c6 : (↑sl : Int) ≤ ↑s.size := by omega
        have c9 : IntKind.i64.wrap ((sl : Int) + 1) = (sl : Int) + 1 := IntWalk.i64_in _ (by omega)
        go_region_held3 (fun _ => True) (trivial) (first | (go_at_call 46; refine (HC.out _ _ _).mono ?_; rintro e w3 ⟨rfl, hb⟩; replace HB := Lib.hid (bl_sp hb HB.out.os HB.out.tape HB.out.output HB.out.size HB.out.block); clear hb))
        go_wp2
        go_ret3
        exact ⟨ret_split HE.out.2.1.symm HE.out.2.2.symm HE.out.1.symm, HB.out⟩
      · have HO := Lib.hid (HF.out (by omega))
        have HE := Lib.hid (HFN.out HO.out)
        clear HG HF HFN
        go_wp2_with fail
        go_ret3
        exact ⟨ret_split HE.out.1.symm HE.out.2.symm HO.out.symm, HB.out⟩
end Go.Proofs.YtancidbbkoeokaaGreatDoor
