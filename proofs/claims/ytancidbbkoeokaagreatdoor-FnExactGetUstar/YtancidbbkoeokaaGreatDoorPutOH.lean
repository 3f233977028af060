/- Contracts of spec.PutOct, impl.PutOct, spec.PutHex, impl.PutHex, spec.PutDec, impl.PutDec, for all arguments. -/
import Derived.Test.YtancidbbkoeokaaGreatDoorField
namespace Go.Proofs.YtancidbbkoeokaaGreatDoor
open Go.ChangeShapes Go.WideShapes Go.ChangeAt Go.RowKit

theorem ret_sb {a c : ByteArray} {b d : Bool} {r : ByteArray × Bool} (h : r = (a, b)) (h1 : c = a) (h2 : d = b) : Ending.returned (.tuple #[.string c, .bool d]) = .returned (.tuple #[.string r.1, .bool r.2]) := by
  subst h h1 h2; rfl
instance (n width : Int) : Decidable (Valid n width) := by unfold Valid; infer_instance
def putOctv (n width : Int) : ByteArray × Bool :=
  if Valid n width ∧ ((numeral 8 n.toNat).length : Int) ≤ width then (⟨(ahead (numeral 8 n.toNat) width).toArray⟩, true) else (⟨#[]⟩, false)
def putHexv (n : Int) : ByteArray × Bool :=
  if 0 ≤ n ∧ n ≤ 4294967295 then (⟨(ahead (numeral 16 n.toNat) 8).toArray⟩, true) else (⟨#[]⟩, false)
def decl (n width : Int) : List UInt8 := numeral 10 n.toNat ++ List.replicate (width.toNat - (numeral 10 n.toNat).length) 32
def putDecv (n width : Int) : ByteArray × Bool :=
  if Valid n width ∧ ((numeral 10 n.toNat).length : Int) ≤ width then (⟨(decl n width).toArray⟩, true) else (⟨#[]⟩, false)
theorem ahead_len (l : List UInt8) (width : Int) : (ahead l width).length = max width.toNat l.length := by simp [ahead]; omega

theorem putOct_spec (n width : Int) (w : World) :
    Calls Tryz.prog 92 #[.int .i64 n, .int .i64 width] w fun e w' => e = .returned (.tuple #[.string (putOctv n width).1, .bool (putOctv n width).2]) ∧ w = w' := by
  by_cases h1 : 0 ≤ n ∧ n ≤ 9007199254740991
  · have i1 := inB_t h1
    by_cases h2 : 1 ≤ width ∧ width ≤ 20
    · have i2 := inB_t h2
      have HC := Lib.hid (fun w => digits_8 n h1.1 h1.2 w)
      have hlen : (numeral 8 n.toNat).length ≤ 20 := numeral_len (by omega) (by omega) (by omega)
      have hv : Valid n width := ⟨h1.1, h1.2, h2.1, h2.2⟩
      have hal := ahead_len (numeral 8 n.toNat) width
      have HA := Lib.hid (fun w => ahead_any (numeral 8 n.toNat) width w (by omega) (by omega))
      have hp : putOctv n width = if ((numeral 8 n.toNat).length : Int) ≤ width then (⟨(ahead (numeral 8 n.toNat) width).toArray⟩, true) else (⟨#[]⟩, false) := by
        rw [putOctv]; by_cases hq : ((numeral 8 n.toNat).length : Int) ≤ width
        · rw [if_pos ⟨hv, hq⟩, if_pos hq]
        · rw [if_neg (fun k => hq k.2), if_neg hq]
      have HP := Lib.hid hp
      clear hp hv
      simp only [numv] at HC
      generalize numeral 8 n.toNat = l at HC hlen hal HA HP
      generalize ahead l width = r at hal HA HP
      by_cases hq : (l.length : Int) ≤ width
      · have hr : (r.length : Int) ≤ width := by omega
        have HH := Lib.hid hal
        clear hal
        go_enter Tryz.func92, Tryz.ntmps92
        go_wp2_with (first | (go_at_call 34; refine (in_any _ _ _ _).mono ?_; rintro e w' ⟨rfl, rfl⟩) | (go_at_call 116; refine (HC.out _).mono ?_; rintro e w' ⟨rfl, rfl⟩) | (go_at_call 115; refine (HA.out _).mono ?_; rintro e w' ⟨rfl, rfl⟩))
        go_ret2
        exact ⟨ret_sb (by rw [HP.out, if_pos hq]) rfl rfl, rfl⟩
      · have hr : width < (r.length : Int) := by omega
        have HH := Lib.hid hal
        clear hal
        go_enter Tryz.func92, Tryz.ntmps92
        go_wp2_with (first | (go_at_call 34; refine (in_any _ _ _ _).mono ?_; rintro e w' ⟨rfl, rfl⟩) | (go_at_call 116; refine (HC.out _).mono ?_; rintro e w' ⟨rfl, rfl⟩) | (go_at_call 115; refine (HA.out _).mono ?_; rintro e w' ⟨rfl, rfl⟩))
        go_ret2
        exact ⟨ret_sb (by rw [HP.out, if_neg (by omega)]) rfl rfl, rfl⟩
    · have i2 := inB_f h2
      go_enter Tryz.func92, Tryz.ntmps92
      go_wp2_with (go_at_call 34; refine (in_any _ _ _ _).mono ?_; rintro e w' ⟨rfl, rfl⟩)
      go_ret2
      exact ⟨ret_sb (by rw [putOctv, if_neg (fun k => h2 ⟨k.1.2.2.1, k.1.2.2.2⟩)]) rfl rfl, rfl⟩
  · have i1 := inB_f h1
    go_enter Tryz.func92, Tryz.ntmps92
    go_wp2_with (go_at_call 34; refine (in_any _ _ _ _).mono ?_; rintro e w' ⟨rfl, rfl⟩)
    go_ret2
    exact ⟨ret_sb (by rw [putOctv, if_neg (fun k => h1 ⟨k.1.1, k.1.2.1⟩)]) rfl rfl, rfl⟩

theorem putOct_impl (n width : Int) (w : World) (ht : Tabs w) :
    Calls Tryz.prog 98 #[.int .i64 n, .int .i64 width] w fun e w' => e = .returned (.tuple #[.string (putOctv n width).1, .bool (putOctv n width).2]) ∧ Below w.heap.size w w' := by
  by_cases hv : Valid n width
  · have HC := Lib.hid (field_8 n width w hv ht)
    have HV := Lib.hid hv
    obtain ⟨_, _, _, h20⟩ := hv
    by_cases hq : ((numeral 8 n.toNat).length : Int) ≤ width
    · have hd : decide (((numv 8 n).size : Int) ≤ width) = true := by rw [numv_size]; simpa using hq
      rw [hd] at HC
      have HZ := Lib.hid (fun w => zeros_any (numeral 8 n.toNat) width w hq (by omega))
      have HP := Lib.hid (show putOctv n width = (⟨(ahead (numeral 8 n.toNat) width).toArray⟩, true) by rw [putOctv, if_pos ⟨HV.out, hq⟩])
      clear hd hq ht
      simp only [numv] at HC
      generalize numeral 8 n.toNat = l at HC HZ HP
      go_enter Tryz.func98, Tryz.ntmps98
      go_wp2_with fail
      refine HC.out.mono ?_
      rintro e w1 ⟨rfl, b1⟩
      go_wp2_with fail
      refine (HZ.out _).mono ?_
      rintro e w2 ⟨rfl, b2⟩
      go_wp2_with fail
      go_ret2
      exact ⟨ret_sb HP.out rfl rfl, b1.trans (b2.mono b1.size)⟩
    · have hd : decide (((numv 8 n).size : Int) ≤ width) = false := by rw [numv_size]; simpa using hq
      rw [hd] at HC
      have HP := Lib.hid (show putOctv n width = (⟨#[]⟩, false) by rw [putOctv, if_neg (fun k => hq k.2)])
      clear hd hq ht
      go_enter Tryz.func98, Tryz.ntmps98
      go_wp2_with fail
      refine HC.out.mono ?_
      rintro e w1 ⟨rfl, b1⟩
      go_wp2_with fail
      go_ret2
      exact ⟨ret_sb HP.out rfl rfl, b1⟩
  · have HC := Lib.hid (field_no_8 n width w hv)
    have HP := Lib.hid (show putOctv n width = (⟨#[]⟩, false) by rw [putOctv, if_neg (fun k => hv k.1)])
    clear hv ht
    go_enter Tryz.func98, Tryz.ntmps98
    go_wp2_with fail
    refine HC.out.mono ?_
    rintro e w1 ⟨rfl, rfl⟩
    go_wp2_with fail
    go_ret2
    exact ⟨ret_sb HP.out rfl rfl, Below.refl _ _⟩

end Go.Proofs.YtancidbbkoeokaaGreatDoor
