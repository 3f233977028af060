/- Contracts of spec.PutOct, impl.PutOct, spec.PutHex, impl.PutHex, spec.PutDec, impl.PutDec, for all arguments. -/
import Derived.Test.YtcnmbolmgifgfaaDoorField
namespace Go.Proofs.YtcnmbolmgifgfaaDoor
open Go.ChangeShapes Go.WideShapes Go.ChangeAt Go.RowKit

theorem ret_sb {a c : ByteArray} {b d : Bool} {r : ByteArray × Bool} (h : r = (a, b)) (h1 : c = a) (h2 : d = b) : Ending.returned (.tuple #[.string c, .bool d]) = .returned (.tuple #[.string r.1, .bool r.2]) := by
  subst h h1 h2; rfl
instance (n width : Int) : Decidable (Valid n width) := by unfold Valid; infer_instance
def putOctv (n width : Int) : ByteArray × Bool :=
  if Valid n width ∧ ((numeral 8 n.toNat).length : Int) ≤ width then (⟨(ahead (numeral 8 n.toNat) width).toArray⟩, true) else (⟨#[]⟩, false)
def putHexv (n : Int) : ByteArray × Bool :=
  if 0 ≤ n ∧ n ≤ 4294967295 then (⟨(ahead (numeral 16 n.toNat) 8).toArray⟩, true) else (⟨#[]⟩, false)
def decl (n width : Int) : List UInt8 := numeral 10 n.toNat ++ List.replicate (width.toNat - (numeral 10 n.toNat).length) 32
def putDecv (n width : Int) : ByteArray × Bool :=
  if Valid n width ∧ ((numeral 10 n.toNat).length : Int) ≤ width then (⟨(decl n width).toArray⟩, true) else (⟨#[]⟩, false)
theorem ahead_len (l : List UInt8) (width : Int) : (ahead l width).length = max width.toNat l.length := by simp [ahead]; omega

theorem putHex_spec (n : Int) (w : World) :
    Calls Tryd.prog 10 #[.int .i64 n] w fun e w' => e = .returned (.tuple #[.string (putHexv n).1, .bool (putHexv n).2]) ∧ w = w' := by
  by_cases h1 : 0 ≤ n ∧ n ≤ 4294967295
  · have i1 := inB_t h1
    have HC := Lib.hid (fun w => digits_16 n h1.1 (by omega) w)
    have hlen : (numeral 16 n.toNat).length ≤ 20 := numeral_len (by omega) (by omega) (by omega)
    have HA := Lib.hid (fun w => ahead_any (numeral 16 n.toNat) 8 w (by omega) (by omega))
    have HP := Lib.hid (show putHexv n = (⟨(ahead (numeral 16 n.toNat) 8).toArray⟩, true) by rw [putHexv, if_pos h1])
    simp only [numv] at HC
    generalize numeral 16 n.toNat = l at HC hlen HA HP
    go_enter Tryd.func10, Tryd.ntmps10
    go_wp2_with (first | (go_at_call 18; refine (in_any _ _ _ _).mono ?_; rintro e w' ⟨rfl, rfl⟩) | (go_at_call 20; refine (HC.out _).mono ?_; rintro e w' ⟨rfl, rfl⟩) | (go_at_call 19; refine (HA.out _).mono ?_; rintro e w' ⟨rfl, rfl⟩))
    go_ret2
    exact ⟨ret_sb HP.out rfl rfl, rfl⟩
  · have i1 := inB_f h1
    go_enter Tryd.func10, Tryd.ntmps10
    go_wp2_with (go_at_call 18; refine (in_any _ _ _ _).mono ?_; rintro e w' ⟨rfl, rfl⟩)
    go_ret2
    exact ⟨ret_sb (by rw [putHexv, if_neg h1]) rfl rfl, rfl⟩

theorem putHex_impl (n : Int) (w : World) (ht : Tabs w) :
    Calls Tryd.prog 23 #[.int .i64 n] w fun e w' => e = .returned (.tuple #[.string (putHexv n).1, .bool (putHexv n).2]) ∧ Below w.heap.size w w' := by
  by_cases h0 : n < 0
  · clear ht
    go_enter Tryd.func23, Tryd.ntmps23
    go_wp2_with fail
    go_ret2
    exact ⟨ret_sb (by rw [putHexv, if_neg (by omega)]) rfl rfl, Below.refl _ _⟩
  · by_cases h1 : 4294967295 < n
    · clear ht
      go_enter Tryd.func23, Tryd.ntmps23
      go_wp2_with fail
      go_ret2
      exact ⟨ret_sb (by rw [putHexv, if_neg (by omega)]) rfl rfl, Below.refl _ _⟩
    · have HC := Lib.hid (fmtInt_16 n w (by omega) (by omega) ht)
      have hlen : (numeral 16 n.toNat).length ≤ 8 := numeral_len (by omega) (by omega) (by omega)
      have HZ := Lib.hid (fun w => zeros_any (numeral 16 n.toNat) 8 w (by omega) (by omega))
      have HP := Lib.hid (show putHexv n = (⟨(ahead (numeral 16 n.toNat) 8).toArray⟩, true) by rw [putHexv, if_pos (by omega)])
      clear ht
      simp only [numv] at HC
      generalize numeral 16 n.toNat = l at HC HZ HP hlen
      go_enter Tryd.func23, Tryd.ntmps23
      go_wp2_with fail
      refine HC.out.mono ?_
      rintro e w1 ⟨rfl, b1⟩
      go_wp2_with fail
      refine (HZ.out _).mono ?_
      rintro e w2 ⟨rfl, b2⟩
      go_wp2_with fail
      go_ret2
      exact ⟨ret_sb HP.out rfl rfl, b1.trans (b2.mono b1.size)⟩
end Go.Proofs.YtcnmbolmgifgfaaDoor
