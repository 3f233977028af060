/- Contracts of spec.PutRecord and impl.PutRecord. -/
import Derived.Test.YtlbanaakjabfnaaDoorRecMath
namespace Go.Proofs.YtlbanaakjabfnaaDoor
open Go.ChangeShapes Go.WideShapes Go.ChangeAt Go.RowKit

set_option maxHeartbeats 1600000 in
theorem putRecord_spec (k v : ByteArray) (w : World) (hk : k.size ≤ 4194304) (hv : v.size ≤ 4194304) :
    Calls Tryd.prog 8 #[.agg #[.string k, .string v]] w fun e w' => e = .returned (.string (putRecv k v)) ∧ Below w.heap.size w w' := by
  have H1 := Lib.hid (fun w => recordOk_spec k v w hk hv)
  cases hr : recOkv k v with
  | false =>
    have HP : Hid (putRecv k v = ⟨#[]⟩) := Lib.hid (by rw [putRecv, hr]; rfl)
    rw [hr] at H1
    clear hr
    go_enter Tryd.func8, Tryd.ntmps8
    go_wp2_with fail
    refine (H1.out _).mono ?_
    rintro e w1 ⟨rfl, hb⟩
    have B := Lib.hid (one_newR (e1 := ⟨k, v⟩) hb).2.1
    clear hb
    go_wp2_with fail
    go_ret
    exact ⟨ret_str HP.out.symm, B.out⟩
  | true =>
    have HP : Hid (putRecv k v = decTextv (recLen (recRest k v).size : Nat) ++ recRest k v) := Lib.hid (by rw [putRecv, hr]; rfl)
    have hm : (recRest k v).size ≤ 500 := by have := recOk_facts hr; rw [recRest_size]; omega
    have hbd := recLen_bd (recRest k v).size
    have hsz := recRest_size k v
    have HL : Hid (∀ n : Nat, (recRest k v).size + 1 ≤ n → n < recLen (recRest k v).size → n < (decTextv (n : Int)).size + (recRest k v).size) := Lib.hid (fun n h0 h1 => len_lt h0 h1 hm)
    have HE : Hid ((decTextv (recLen (recRest k v).size : Int)).size + (recRest k v).size = recLen (recRest k v).size) := Lib.hid (len_eq hm)
    have HD := Lib.hid (fun (n : Nat) w (hn : n ≤ 600) => decText_spec (n : Int) (by omega) (by omega) w)
    have HRr : Hid (recRest k v = ⟨#[32]⟩ ++ k ++ ⟨#[61]⟩ ++ v ++ ⟨#[10]⟩) := Lib.hid rfl
    generalize putRecv k v = r at HP
    rw [hr] at H1
    clear hr
    go_enter Tryd.func8, Tryd.ntmps8
    go_wp2_with fail
    refine (H1.out _).mono ?_
    rintro e w1 ⟨rfl, hb⟩
    obtain ⟨r1, b1, z1⟩ := one_newR (e1 := ⟨k, v⟩) hb
    have B := Lib.hid b1
    obtain ⟨c0, c1⟩ := r1.zero
    clear hb r1 b1
    go_wp2_with fail
    rw [← HRr.out]
    generalize recRest k v = R at *
    clear HRr c0 c1
    go_loopw [4] (fun u wr => ∃ n : Nat, u = .int .i64 n ∧ R.size + 1 ≤ n ∧ n ≤ recLen R.size ∧ Below w.heap.size w wr) (fun u _ => recLen R.size - (intOf u).toNat)
    case atStart => exact ⟨R.size + 1, by go_num, Nat.le_refl _, hbd.1, B.out⟩
    case round =>
      obtain ⟨n, rfl, hn0, hn1, hb⟩ := hrel
      replace B := Lib.hid hb
      clear hb
      by_cases hlt : n < recLen R.size
      · have hq := HL.out n hn0 hlt
        have hd3 := dec_le3 (n := n) (by omega)
        have HDn := Lib.hid (fun w => HD.out n w (by omega))
        generalize decTextv (n : Int) = d at hq HDn hd3
        have hq1 : ((n : Int) == (d.size : Int) + (R.size : Int)) = false := by simp; omega
        have hq2 : (n : Int) < (d.size : Int) + (R.size : Int) := by omega
        go_wp2_with fail
        refine (HDn.out _).mono ?_
        rintro e _ ⟨rfl, rfl⟩
        go_wp2_with fail
        go_roundw
        case rel => exact ⟨n + 1, by go_num, by omega, by omega, B.out⟩
        case measure => simp [intOf]; omega
      · obtain rfl : n = recLen R.size := by omega
        have hq := HE.out
        have hd3 := dec_le3 (n := recLen R.size) (by omega)
        have HDn := Lib.hid (fun w => HD.out (recLen R.size) w (by omega))
        clear HL HE
        generalize recLen R.size = n at *
        generalize decTextv (n : Int) = d at hq HDn HP hd3
        have hq1 : ((n : Int) == (d.size : Int) + (R.size : Int)) = true := by simp; omega
        have hq2 : ¬ (n : Int) < (d.size : Int) + (R.size : Int) := by omega
        go_wp2_with fail
        refine (HDn.out _).mono ?_
        rintro e _ ⟨rfl, rfl⟩
        go_wp2_with fail
        refine (HDn.out _).mono ?_
        rintro e _ ⟨rfl, rfl⟩
        go_wp2_with fail
        go_ret
        exact ⟨ret_str HP.out.symm, B.out⟩

set_option maxHeartbeats 1600000 in
theorem putRecord_impl (k v : ByteArray) (w : World) (hk : k.size ≤ 4194304) (hv : v.size ≤ 4194304) (ht : Lib.TabIs Tryd.prog w "internal/strconv.uint64pow10" .u64 Lib.pow10Tab) :
    Calls Tryd.prog 10 #[.agg #[.string k, .string v]] w fun e w' => e = .returned (.string (putRecv k v)) ∧ Below w.heap.size w w' := by
  have H1 := Lib.hid (fun w => recordOk_impl k v w hk hv)
  cases hr : recOkv k v with
  | false =>
    have HP : Hid (putRecv k v = ⟨#[]⟩) := Lib.hid (by rw [putRecv, hr]; rfl)
    rw [hr] at H1
    clear hr
    go_enter Tryd.func10, Tryd.ntmps10
    go_wp2_with fail
    refine (H1.out _).mono ?_
    rintro e w1 ⟨rfl, hb⟩
    have B := Lib.hid (one_newR (e1 := ⟨k, v⟩) hb).2.1
    clear hb
    go_wp2_with fail
    go_ret
    exact ⟨ret_str HP.out.symm, B.out⟩
  | true =>
    have HP : Hid (putRecv k v = decTextv (recLen (recRest k v).size : Nat) ++ recRest k v) := Lib.hid (by rw [putRecv, hr]; rfl)
    have hm : (recRest k v).size ≤ 500 := by have := recOk_facts hr; rw [recRest_size]; omega
    have hbd := recLen_bd (recRest k v).size
    have hsz := recRest_size k v
    have HL : Hid (∀ n : Nat, (recRest k v).size + 1 ≤ n → n < recLen (recRest k v).size → n < (decTextv (n : Int)).size + (recRest k v).size) := Lib.hid (fun n h0 h1 => len_lt h0 h1 hm)
    have HE : Hid ((decTextv (recLen (recRest k v).size : Int)).size + (recRest k v).size = recLen (recRest k v).size) := Lib.hid (len_eq hm)
    have HD := Lib.hid (fun (n : Nat) w (hn : n ≤ 600) (h : Lib.TabIs Tryd.prog w "internal/strconv.uint64pow10" .u64 Lib.pow10Tab) => decText_impl (n : Int) (by omega) (by omega) w h)
    have HT := Lib.hid ht
    clear ht
    have HRr : Hid (recRest k v = ⟨#[32]⟩ ++ k ++ ⟨#[61]⟩ ++ v ++ ⟨#[10]⟩) := Lib.hid rfl
    generalize putRecv k v = r at HP
    rw [hr] at H1
    clear hr
    go_enter Tryd.func10, Tryd.ntmps10
    go_wp2_with fail
    refine (H1.out _).mono ?_
    rintro e w1 ⟨rfl, hb⟩
    obtain ⟨r1, b1, z1⟩ := one_newR (e1 := ⟨k, v⟩) hb
    have B := Lib.hid b1
    obtain ⟨c0, c1⟩ := r1.zero
    clear hb r1 b1
    go_wp2_with fail
    rw [← HRr.out]
    generalize recRest k v = R at *
    clear HRr c0 c1
    go_loopw [4] (fun u wr => ∃ n : Nat, u = .int .i64 n ∧ R.size + 1 ≤ n ∧ n ≤ recLen R.size ∧ Below w.heap.size w wr) (fun u _ => recLen R.size - (intOf u).toNat)
    case atStart => exact ⟨R.size + 1, by go_num, Nat.le_refl _, hbd.1, B.out⟩
    case round =>
      obtain ⟨n, rfl, hn0, hn1, hb⟩ := hrel
      replace B := Lib.hid hb
      clear hb
      by_cases hlt : n < recLen R.size
      · have hq := HL.out n hn0 hlt
        have hd3 := dec_le3 (n := n) (by omega)
        have HDn := Lib.hid (fun w => HD.out n w (by omega))
        generalize decTextv (n : Int) = d at hq HDn hd3
        have hq1 : ((n : Int) == (d.size : Int) + (R.size : Int)) = false := by simp; omega
        have hq2 : (n : Int) < (d.size : Int) + (R.size : Int) := by omega
        go_wp2_with fail
        refine (HDn.out _ (Lib.tabBelow_of_tabIs HT.out _ B.out)).mono ?_
        rintro e w2 ⟨rfl, hb⟩
        replace B := Lib.hid (btR B.out hb)
        clear hb
        go_wp2_with fail
        go_roundw
        case rel => exact ⟨n + 1, by go_num, by omega, by omega, B.out⟩
        case measure => simp [intOf]; omega
      · obtain rfl : n = recLen R.size := by omega
        have hq := HE.out
        have hd3 := dec_le3 (n := recLen R.size) (by omega)
        have HDn := Lib.hid (fun w => HD.out (recLen R.size) w (by omega))
        clear HL HE
        generalize recLen R.size = n at *
        generalize decTextv (n : Int) = d at hq HDn HP hd3
        have hq1 : ((n : Int) == (d.size : Int) + (R.size : Int)) = true := by simp; omega
        have hq2 : ¬ (n : Int) < (d.size : Int) + (R.size : Int) := by omega
        go_wp2_with fail
        refine (HDn.out _ (Lib.tabBelow_of_tabIs HT.out _ B.out)).mono ?_
        rintro e w2 ⟨rfl, hb⟩
        replace B := Lib.hid (btR B.out hb)
        clear hb
        go_wp2_with fail
        refine (HDn.out _ (Lib.tabBelow_of_tabIs HT.out _ B.out)).mono ?_
        rintro e w3 ⟨rfl, hb⟩
        replace B := Lib.hid (btR B.out hb)
        clear hb
        go_wp2_with fail
        go_ret
        exact ⟨ret_str HP.out.symm, B.out⟩
end Go.Proofs.YtlbanaakjabfnaaDoor
