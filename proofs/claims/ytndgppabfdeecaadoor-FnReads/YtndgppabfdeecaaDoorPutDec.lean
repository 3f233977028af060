/- Contracts of spec.PutDec and impl.PutDec, for all arguments. -/
import Derived.Test.YtndgppabfdeecaaDoorPutOH
namespace Go.Proofs.YtndgppabfdeecaaDoor
open Go.ChangeShapes Go.WideShapes Go.ChangeAt Go.RowKit

theorem snoc_str (l : List UInt8) (c : UInt8) : (⟨l.toArray⟩ : ByteArray) ++ ⟨#[c]⟩ = ⟨(l ++ [c]).toArray⟩ := by apply ByteArray.ext; simp

theorem putDec_spec (n width : Int) (w : World) :
    Calls Tryd.prog 15 #[.int .i64 n, .int .i64 width] w fun e w' => e = .returned (.tuple #[.string (putDecv n width).1, .bool (putDecv n width).2]) ∧ w = w' := by
  by_cases h1 : 0 ≤ n ∧ n ≤ 9007199254740991
  · have i1 := inB_t h1
    by_cases h2 : 1 ≤ width ∧ width ≤ 20
    · have i2 := inB_t h2
      have HC := Lib.hid (fun w => digits_10 n h1.1 h1.2 w)
      have hlen : (numeral 10 n.toNat).length ≤ 20 := numeral_len (by omega) (by omega) (by omega)
      have hv : Valid n width := ⟨h1.1, h1.2, h2.1, h2.2⟩
      have hp : putDecv n width = if ((numeral 10 n.toNat).length : Int) ≤ width then (⟨(numeral 10 n.toNat ++ List.replicate (width.toNat - (numeral 10 n.toNat).length) 32).toArray⟩, true) else (⟨#[]⟩, false) := by
        rw [putDecv]; by_cases hq : ((numeral 10 n.toNat).length : Int) ≤ width
        · rw [if_pos ⟨hv, hq⟩, if_pos hq]; rfl
        · rw [if_neg (fun k => hq k.2), if_neg hq]
      have HP := Lib.hid hp
      clear hp hv
      simp only [numv] at HC
      generalize numeral 10 n.toNat = l at HC hlen HP
      by_cases hq : (l.length : Int) ≤ width
      · go_enter Tryd.func15, Tryd.ntmps15
        go_wp2_with (first | (go_at_call 40; refine (in_any _ _ _ _).mono ?_; rintro e w' ⟨rfl, rfl⟩) | (go_at_call 42; refine (HC.out _).mono ?_; rintro e w' ⟨rfl, rfl⟩))
        go_loop [6] (fun o => ∃ (r : List UInt8) (k : Nat), o = .string ⟨r.toArray⟩ ∧ Hid (r = l ++ List.replicate k 32) ∧ r.length ≤ 80 ∧ k ≤ width.toNat - l.length ∧ Hid (r.length = k + l.length)) (fun o => width.toNat - strLen o)
        case atStart => exact ⟨l, 0, rfl, Lib.hid (by simp), by omega, by omega, Lib.hid (by omega)⟩
        case round =>
          obtain ⟨r, k, rfl, HR, hr, hk, HK⟩ := hrel
          by_cases hlt : (r.length : Int) < width
          · go_wp2_with fail
            go_round
            case rel => exact ⟨r ++ [32], k + 1, by rw [snoc_str], Lib.hid (by rw [HR.out, List.append_assoc, ← List.replicate_succ']), by have := HK.out; simp only [List.length_append, List.length_singleton]; omega, by have := HK.out; omega, Lib.hid (by have := HK.out; simp only [List.length_append, List.length_singleton]; omega)⟩
            case measure => simp [strLen, ba_size]; omega
          · go_wp2_with fail
            go_ret2
            have := HK.out
            exact ⟨ret_sb (by rw [HP.out, if_pos hq]) (by rw [HR.out, show width.toNat - l.length = k by omega]) rfl, rfl⟩
      · go_enter Tryd.func15, Tryd.ntmps15
        go_wp2_with (first | (go_at_call 40; refine (in_any _ _ _ _).mono ?_; rintro e w' ⟨rfl, rfl⟩) | (go_at_call 42; refine (HC.out _).mono ?_; rintro e w' ⟨rfl, rfl⟩))
        go_ret2
        exact ⟨ret_sb (by rw [HP.out, if_neg (by omega)]) rfl rfl, rfl⟩
    · have i2 := inB_f h2
      go_enter Tryd.func15, Tryd.ntmps15
      go_wp2_with (go_at_call 40; refine (in_any _ _ _ _).mono ?_; rintro e w' ⟨rfl, rfl⟩)
      go_ret2
      exact ⟨ret_sb (by rw [putDecv, if_neg (fun k => h2 ⟨k.1.2.2.1, k.1.2.2.2⟩)]) rfl rfl, rfl⟩
  · have i1 := inB_f h1
    go_enter Tryd.func15, Tryd.ntmps15
    go_wp2_with (go_at_call 40; refine (in_any _ _ _ _).mono ?_; rintro e w' ⟨rfl, rfl⟩)
    go_ret2
    exact ⟨ret_sb (by rw [putDecv, if_neg (fun k => h1 ⟨k.1.1, k.1.2.1⟩)]) rfl rfl, rfl⟩

theorem putDec_impl (n width : Int) (w : World) (ht : Tabs w) :
    Calls Tryd.prog 16 #[.int .i64 n, .int .i64 width] w fun e w' => e = .returned (.tuple #[.string (putDecv n width).1, .bool (putDecv n width).2]) ∧ Below w.heap.size w w' := by
  by_cases hv : Valid n width
  · have HC := Lib.hid (field_10 n width w hv ht)
    have HV := Lib.hid hv
    obtain ⟨_, _, _, h20⟩ := hv
    by_cases hq : ((numeral 10 n.toNat).length : Int) ≤ width
    · have hd : decide (((numv 10 n).size : Int) ≤ width) = true := by rw [numv_size]; simpa using hq
      rw [hd] at HC
      have HP := Lib.hid (show putDecv n width = (⟨(numeral 10 n.toNat ++ List.replicate (width.toNat - (numeral 10 n.toNat).length) 32).toArray⟩, true) by rw [putDecv, if_pos ⟨HV.out, hq⟩]; rfl)
      clear hd ht
      simp only [numv] at HC
      generalize numeral 10 n.toNat = l at HC HP hq
      obtain ⟨k, hk⟩ := Int.eq_ofNat_of_zero_le (show 0 ≤ width - (l.length : Int) by omega)
      have hk2 : width.toNat - l.length = k := by omega
      rw [hk2] at HP
      have hl : l.length ≤ 20 := by omega
      have hk3 : k ≤ 40 := by omega
      have hr : (List.replicate k (32 : UInt8)).length ≤ 40 := by simpa using hk3
      have HR := Lib.hid (fun w => repeat_one 32 k w (by omega))
      generalize List.replicate k (32 : UInt8) = R at HR hr HP
      have HK := Lib.hid hk
      clear hk hk2
      go_enter Tryd.func16, Tryd.ntmps16
      go_wp2_with fail
      refine HC.out.mono ?_
      rintro e w1 ⟨rfl, b1⟩
      go_wp2_with fail
      rw [HK.out]
      refine (HR.out _).mono ?_
      rintro e w2 ⟨rfl, b2⟩
      go_wp2_with fail
      go_ret2
      exact ⟨ret_sb HP.out (ba_app _ _) rfl, b1.trans (b2.mono b1.size)⟩
    · have hd : decide (((numv 10 n).size : Int) ≤ width) = false := by rw [numv_size]; simpa using hq
      rw [hd] at HC
      have HP := Lib.hid (show putDecv n width = (⟨#[]⟩, false) by rw [putDecv, if_neg (fun k => hq k.2)])
      clear hd hq ht
      go_enter Tryd.func16, Tryd.ntmps16
      go_wp2_with fail
      refine HC.out.mono ?_
      rintro e w1 ⟨rfl, b1⟩
      go_wp2_with fail
      go_ret2
      exact ⟨ret_sb HP.out rfl rfl, b1⟩
  · have HC := Lib.hid (field_no_10 n width w hv)
    have HP := Lib.hid (show putDecv n width = (⟨#[]⟩, false) by rw [putDecv, if_neg (fun k => hv k.1)])
    clear hv ht
    go_enter Tryd.func16, Tryd.ntmps16
    go_wp2_with fail
    refine HC.out.mono ?_
    rintro e w1 ⟨rfl, rfl⟩
    go_wp2_with fail
    go_ret2
    exact ⟨ret_sb HP.out rfl rfl, Below.refl _ _⟩
end Go.Proofs.YtndgppabfdeecaaDoor
