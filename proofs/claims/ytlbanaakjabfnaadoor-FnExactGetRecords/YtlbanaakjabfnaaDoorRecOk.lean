/- Contracts of spec.RecordOk and impl.RecordOk. -/
import Derived.Test.YtlbanaakjabfnaaDoorRecA
import Derived.Test.YtlbanaakjabfnaaDoorAnyCh
namespace Go.Proofs.YtlbanaakjabfnaaDoor
open Go.ChangeShapes Go.WideShapes Go.ChangeAt Go.RowKit

def keyb (c : UInt8) : Bool := c != 61
/-- What a record is. -/
def recOkv (k v : ByteArray) : Bool := inB k.size 1 30 && signv k && k.data.toList.all keyb && decide (v.size ≤ 250) && v.data.toList.all valb
theorem keyb_i (c : UInt8) : keyb c = !(((c.toNat : Nat) : Int) == 61) := by
  unfold keyb
  by_cases h : c = 61
  · subst h; rfl
  · have h2 : ¬ ((c.toNat : Nat) : Int) = 61 := fun e => h (UInt8.toNat_inj.1 (by simp; omega))
    have h3 : (c != 61) = true := by simpa using h
    rw [h3, beq_eq_false_iff_ne.2 h2]; rfl
theorem valb_i (c : UInt8) : valb c = (!(((c.toNat : Nat) : Int) == 0) && !(((c.toNat : Nat) : Int) == 10)) := by
  unfold valb
  have h0 : (c != 0) = !(((c.toNat : Nat) : Int) == 0) := by
    by_cases h : c = 0
    · subst h; rfl
    · have h2 : ¬ ((c.toNat : Nat) : Int) = 0 := fun e => h (UInt8.toNat_inj.1 (by simp; omega))
      have h3 : (c != 0) = true := by simpa using h
      rw [h3, beq_eq_false_iff_ne.2 h2]; rfl
  have h1 : (c != 10) = !(((c.toNat : Nat) : Int) == 10) := by
    by_cases h : c = 10
    · subst h; rfl
    · have h2 : ¬ ((c.toNat : Nat) : Int) = 10 := fun e => h (UInt8.toNat_inj.1 (by simp; omega))
      have h3 : (c != 10) = true := by simpa using h
      rw [h3, beq_eq_false_iff_ne.2 h2]; rfl
  rw [h0, h1]
set_option maxHeartbeats 1600000 in
theorem recordOk_spec (k v : ByteArray) (w : World) (hk : k.size ≤ 4194304) (hv : v.size ≤ 4194304) :
    Calls Tryd.prog 23 #[.agg #[.string k, .string v]] w fun e w' => e = .returned (.bool (recOkv k v)) ∧ Below w.heap.size w w' := by
  have HR : Hid (recOkv k v = (inB k.size 1 30 && signv k && k.data.toList.all keyb && decide (v.size ≤ 250) && v.data.toList.all valb)) := Lib.hid rfl
  have K1 : Hid (∀ i, (h : i < k.size) → keyb k[i] = false → k.data.toList.all keyb = false) := Lib.hid (fun i h hc => allB_bad h hc)
  have K2 : Hid (AllB keyb k k.size → k.data.toList.all keyb = true) := Lib.hid (fun h => h.done)
  have V1 : Hid (∀ i, (h : i < v.size) → valb v[i] = false → v.data.toList.all valb = false) := Lib.hid (fun i h hc => allB_bad h hc)
  have V2 : Hid (AllB valb v v.size → v.data.toList.all valb = true) := Lib.hid (fun h => h.done)
  have HI := Lib.hid (fun w => in_any (k.size : Int) 1 30 w)
  have HS := Lib.hid (fun w => sign_spec k w hk)
  generalize recOkv k v = r at HR
  generalize k.data.toList.all keyb = r1 at HR K1 K2
  generalize v.data.toList.all valb = r2 at HR V1 V2
  generalize inB (k.size : Int) 1 30 = r3 at HR HI
  generalize signv k = r4 at HR HS
  go_enter Tryd.func23, Tryd.ntmps23
  go_wp2_with fail
  go_loopw [3] (fun u wr => ∃ i : Nat, u = .int .i64 i ∧ i ≤ k.size ∧ AllB keyb k i ∧ RecAt wr w.heap.size 0 ⟨k, v⟩ ∧ Below w.heap.size w wr ∧ w.heap.size + 1 ≤ wr.heap.size) (fun u _ => k.size - (intOf u).toNat)
  case atStart => exact ⟨0, rfl, Nat.zero_le _, AllB.start _ _, RecAt.new w ⟨k, v⟩ _, (Below.refl _ _).alloc (Nat.le_refl _) _, by simp⟩
  case round =>
    obtain ⟨i, rfl, hi, ha, hr, hb, hz⟩ := hrel
    have A := Lib.hid ha
    have R := Lib.hid hr
    have B := Lib.hid hb
    clear ha hr hb
    obtain ⟨c0, c1⟩ := R.out.zero
    by_cases hlt : i < k.size
    · have hlt2 : (i : Int) < (k.size : Int) := by omega
      cases hc : keyb k[i] with
      | false =>
        have hq : (((k[i].toNat : Nat) : Int) == 61) = true := by rw [keyb_i] at hc; simpa using hc
        have HF : Hid (r = false) := Lib.hid (by rw [HR.out, K1.out i hlt hc]; simp)
        clear hc HR K1 K2 V1 V2
        go_wp2_with fail
        go_ret
        exact ⟨ret_bool HF.out.symm, B.out⟩
      | true =>
        have hq : (((k[i].toNat : Nat) : Int) == 61) = false := by rw [keyb_i] at hc; simpa using hc
        have A2 := Lib.hid (A.out.step hlt hc)
        clear hc A
        go_wp2_with fail
        go_roundw
        case rel => exact ⟨i + 1, by go_num, by omega, A2.out, R.out, B.out, hz⟩
        case measure => simp [intOf]; omega
    · obtain rfl : i = k.size := by omega
      have hlt2 : ¬ (k.size : Int) < (k.size : Int) := by omega
      have HK : Hid (r1 = true) := Lib.hid (K2.out A.out)
      clear A K1 K2
      go_wp2_with fail
      go_loopw [4] (fun u wr => ∃ i : Nat, u = .int .i64 i ∧ i ≤ v.size ∧ AllB valb v i ∧ RecAt wr w.heap.size 0 ⟨k, v⟩ ∧ Below w.heap.size w wr ∧ w.heap.size + 1 ≤ wr.heap.size) (fun u _ => v.size - (intOf u).toNat)
      case atStart => exact ⟨0, rfl, Nat.zero_le _, AllB.start _ _, R.out, B.out, hz⟩
      case round =>
        clear R B hz c0 c1
        obtain ⟨i, rfl, hi, ha, hr, hb, hz⟩ := hrel
        have A := Lib.hid ha
        have R := Lib.hid hr
        have B := Lib.hid hb
        clear ha hr hb
        obtain ⟨c0, c1⟩ := R.out.zero
        by_cases hlt : i < v.size
        · have hlt2 : (i : Int) < (v.size : Int) := by omega
          cases hc : valb v[i] with
          | false =>
            have HF : Hid (r = false) := Lib.hid (by rw [HR.out, V1.out i hlt hc]; simp)
            rw [valb_i] at hc
            cases hq : (((v[i].toNat : Nat) : Int) == 0) with
            | true =>
              clear hc HR V1 V2
              go_wp2_with fail
              go_ret
              exact ⟨ret_bool HF.out.symm, B.out⟩
            | false =>
              have hq2 : (((v[i].toNat : Nat) : Int) == 10) = true := by rw [hq] at hc; simpa using hc
              clear hc HR V1 V2
              go_wp2_with fail
              go_ret
              exact ⟨ret_bool HF.out.symm, B.out⟩
          | true =>
            have A2 := Lib.hid (A.out.step hlt hc)
            rw [valb_i] at hc
            have hq : (((v[i].toNat : Nat) : Int) == 0) = false := by revert hc; cases (((v[i].toNat : Nat) : Int) == 0) <;> simp
            have hq2 : (((v[i].toNat : Nat) : Int) == 10) = false := by revert hc; cases (((v[i].toNat : Nat) : Int) == 10) <;> simp
            clear hc A
            go_wp2_with fail
            go_roundw
            case rel => exact ⟨i + 1, by go_num, by omega, A2.out, R.out, B.out, hz⟩
            case measure => simp [intOf]; omega
        · obtain rfl : i = v.size := by omega
          have hlt2 : ¬ (v.size : Int) < (v.size : Int) := by omega
          have HV : Hid (r2 = true) := Lib.hid (V2.out A.out)
          clear A V1 V2
          go_wp2_with fail
          refine (HI.out _).mono ?_
          rintro e _ ⟨rfl, rfl⟩
          cases r3 with
          | false =>
            go_wp2_with fail
            go_ret
            exact ⟨ret_bool (by rw [HR.out]; simp), B.out⟩
          | true =>
            go_wp2_with fail
            refine (HS.out _).mono ?_
            rintro e w1 ⟨rfl, hb⟩
            replace R := Lib.hid (R.out.below hb (by omega))
            replace B := Lib.hid (btR B.out hb)
            clear hb c0 c1
            obtain ⟨c0, c1⟩ := R.out.zero
            cases r4 with
            | false =>
              go_wp2_with fail
              go_ret
              exact ⟨ret_bool (by rw [HR.out]; simp), B.out⟩
            | true =>
              by_cases hz : (v.size : Int) ≤ 250
              · have hz2 : v.size ≤ 250 := by omega
                go_wp2_with fail
                go_ret
                exact ⟨ret_bool (by rw [HR.out, HK.out, HV.out]; simp [hz2]; try omega), B.out⟩
              · have hz2 : ¬ v.size ≤ 250 := by omega
                go_wp2_with fail
                go_ret
                exact ⟨ret_bool (by rw [HR.out]; simp [hz2]; try omega), B.out⟩
theorem keyb_has (k : ByteArray) : k.data.toList.all keyb = !hasB 61 k := by rw [hasB_all, Bool.not_not]; rfl
set_option maxHeartbeats 1600000 in
theorem recordOk_impl (k v : ByteArray) (w : World) (hk : k.size ≤ 4194304) (hv : v.size ≤ 4194304) :
    Calls Tryd.prog 25 #[.agg #[.string k, .string v]] w fun e w' => e = .returned (.bool (recOkv k v)) ∧ Below w.heap.size w w' := by
  have HR : Hid (recOkv k v = (inB k.size 1 30 && signv k && !hasB 61 k && decide (v.size ≤ 250) && v.data.toList.all valb)) := Lib.hid (by rw [← keyb_has]; rfl)
  have H1 := Lib.hid (fun w => visible_impl k w (by omega))
  have H2 := Lib.hid (contains_any k 61)
  have H3 := Lib.hid (fun w => containsAny_nl v w (by omega))
  generalize recOkv k v = r at HR
  generalize signv k = r1 at HR H1
  generalize hasB 61 k = r2 at HR H2
  generalize v.data.toList.all valb = r3 at HR H3
  by_cases a1 : (1 : Int) ≤ (k.size : Int)
  · by_cases a2 : (k.size : Int) ≤ 30
    · have HQ : Hid (inB (k.size : Int) 1 30 = true) := Lib.hid (inB_t ⟨a1, a2⟩)
      have R0 := Lib.hid (RecAt.new w ⟨k, v⟩ 26)
      have c00 := R0.out.zero
      obtain ⟨c0, c1⟩ := c00
      go_enter Tryd.func25, Tryd.ntmps25
      go_wp2_with fail
      refine (H1.out _).mono ?_
      rintro e _ ⟨rfl, rfl⟩
      cases r1 with
      | false =>
        go_wp2_with fail
        go_ret
        exact ⟨ret_bool (by rw [HR.out]; simp), (Below.refl _ _).alloc (Nat.le_refl _) _⟩
      | true =>
        go_wp2_with fail
        refine (H2.out _).mono ?_
        rintro e _ ⟨rfl, rfl⟩
        cases r2 with
        | true =>
          go_wp2_with fail
          go_ret
          exact ⟨ret_bool (by rw [HR.out]; simp), (Below.refl _ _).alloc (Nat.le_refl _) _⟩
        | false =>
          by_cases hz : (v.size : Int) ≤ 250
          · have hz2 : v.size ≤ 250 := by omega
            go_wp2_with fail
            refine (H3.out _).mono ?_
            rintro e w1 ⟨rfl, hb⟩
            have B := Lib.hid (one_newR (e1 := ⟨k, v⟩) hb).2.1
            clear hb
            go_wp2_with fail
            go_ret
            exact ⟨ret_bool (by rw [HR.out, HQ.out]; simp [hz2]; try omega), B.out⟩
          · have hz2 : ¬ v.size ≤ 250 := by omega
            go_wp2_with fail
            go_ret
            exact ⟨ret_bool (by rw [HR.out]; simp [hz2]; try omega), (Below.refl _ _).alloc (Nat.le_refl _) _⟩
    · have HQ : Hid (inB (k.size : Int) 1 30 = false) := Lib.hid (inB_f (by omega))
      go_enter Tryd.func25, Tryd.ntmps25
      go_wp2_with fail
      go_ret
      exact ⟨ret_bool (by rw [HR.out, HQ.out]; simp), (Below.refl _ _).alloc (Nat.le_refl _) _⟩
  · have HQ : Hid (inB (k.size : Int) 1 30 = false) := Lib.hid (inB_f (by omega))
    go_enter Tryd.func25, Tryd.ntmps25
    go_wp2_with fail
    go_ret
    exact ⟨ret_bool (by rw [HR.out, HQ.out]; simp), (Below.refl _ _).alloc (Nat.le_refl _) _⟩
end Go.Proofs.YtlbanaakjabfnaaDoor
