/- Contract of impl.GetRecord. -/
import Derived.Test.YtlbanaakjabfnaaDoorRecRd
import Derived.Test.YtlbanaakjabfnaaDoorRecO
import Derived.Test.YtlbanaakjabfnaaDoorPutRec
import Derived.Test.YtlbanaakjabfnaaDoorClone
namespace Go.Proofs.YtlbanaakjabfnaaDoor
open Go.ChangeShapes Go.WideShapes Go.ChangeAt Go.RowKit Go.Deep

/-- What GetRecord answers: whether a record stands at i, its key and value, and the place behind it. -/
def recIn (s : ByteArray) (i : Int) : Bool := decide (0 ≤ i) && decide (i ≤ (s.size : Int)) && recHit (s.extract i.toNat s.size)
def recK (s : ByteArray) (i : Int) : ByteArray := if recIn s i then keyOf (s.extract i.toNat s.size) else ⟨#[]⟩
def recV (s : ByteArray) (i : Int) : ByteArray := if recIn s i then valOf (s.extract i.toNat s.size) else ⟨#[]⟩
def recN (s : ByteArray) (i : Int) : Int := if recIn s i then i + (recText (keyOf (s.extract i.toNat s.size)) (valOf (s.extract i.toNat s.size))).size else -1
theorem below_drewN (w : World) (n : Nat) : Below w.heap.size w (w.drewN n) := ⟨rfl, rfl, rfl, Nat.le_refl _, fun _ _ => rfl⟩
theorem cutB (s : ByteArray) (c : UInt8) (w : World) (hs : s.size ≤ 9223372036854775806) :
    Calls Tryd.prog 28 #[.string s, .string ⟨#[c]⟩] w fun e w' => (∃ f, e = .returned (.tuple #[.string (cutL c s), .string (cutR c s), .bool f])) ∧ Below w.heap.size w w' := by
  refine (cut_c s c w hs).mono ?_
  rintro e w' ⟨h, n, rfl⟩
  exact ⟨h, below_drewN w n⟩
theorem rec_no {s : ByteArray} {i : Int} (h : recIn s i = false) : recK s i = ⟨#[]⟩ ∧ recV s i = ⟨#[]⟩ ∧ recN s i = -1 := by simp [recK, recV, recN, h]
theorem extract_le (s : ByteArray) (j : Nat) : (s.extract j s.size).size ≤ s.size := by simp
theorem empty_tR {l : ByteArray} (h : l.size = 0) : l.toList.isEmpty = true := by
  rw [ba_toList]
  have : l.data.toList = [] := List.eq_nil_of_length_eq_zero (by simpa using h)
  rw [this]; rfl
theorem empty_fR {l : ByteArray} (h : ¬ l.size = 0) : l.toList.isEmpty = false := by
  rw [ba_toList]
  cases hd : l.data.toList with
  | nil => exact absurd (by have := congrArg List.length hd; simpa using this) h
  | cons a b => rfl
set_option maxHeartbeats 3200000 in
theorem getRecord_impl (s : ByteArray) (i : Int) (w : World) (hs : s.size ≤ 1048576) (ht : Lib.TabIs Tryd.prog w "internal/strconv.uint64pow10" .u64 Lib.pow10Tab) :
    Calls Tryd.prog 12 #[.string s, .int .i64 i] w fun e w' => e = .returned (.tuple #[.agg #[.string (recK s i), .string (recV s i)], .int .i64 (recN s i)]) ∧ Below w.heap.size w w' := by
  have RO := Lib.hid (RecO.new w ⟨#[]⟩ ⟨#[]⟩)
  have B0 : Hid (Below w.heap.size w (w.alloc (.cells #[.string ⟨#[]⟩, .string ⟨#[]⟩] 26))) := Lib.hid ((Below.refl _ _).alloc (Nat.le_refl _) _)
  by_cases h0 : i < 0
  · have HN := Lib.hid (rec_no (s := s) (i := i) (by simp [recIn]; omega))
    go_enter Tryd.func12, Tryd.ntmps12
    go_wp2_with fail
    refine bodyPost_ret (res_rec2 rfl _ rfl RO.out) rfl ?_
    exact ⟨by rw [HN.out.1, HN.out.2.1, HN.out.2.2]; rfl, B0.out⟩
  by_cases h1 : (s.size : Int) < i
  · have HN := Lib.hid (rec_no (s := s) (i := i) (by simp [recIn]; omega))
    go_enter Tryd.func12, Tryd.ntmps12
    go_wp2_with fail
    refine bodyPost_ret (res_rec2 rfl _ rfl RO.out) rfl ?_
    exact ⟨by rw [HN.out.1, HN.out.2.1, HN.out.2.2]; rfl, B0.out⟩
  obtain ⟨j, rfl⟩ := Int.eq_ofNat_of_zero_le (show 0 ≤ i by omega)
  have hj : j ≤ s.size := by omega
  have hj2 : (j : Int) ≤ (s.size : Int) := by omega
  have hj3 : (0 : Int) ≤ (j : Int) := by omega
  have HI : Hid (recIn s j = recHit (s.extract j s.size)) := Lib.hid (by simp [recIn, hj])
  have HK : Hid (recK s j = if recIn s j then keyOf (s.extract j s.size) else ⟨#[]⟩) := Lib.hid rfl
  have HV : Hid (recV s j = if recIn s j then valOf (s.extract j s.size) else ⟨#[]⟩) := Lib.hid rfl
  have HN : Hid (recN s j = if recIn s j then (j : Int) + (recText (keyOf (s.extract j s.size)) (valOf (s.extract j s.size))).size else -1) := Lib.hid rfl
  have htz := extract_le s j
  generalize recK s j = rk at HK
  generalize recV s j = rv at HV
  generalize recN s j = rn at HN
  generalize recIn s j = ri at HI HK HV HN
  have HR : Hid (recHit (s.extract j s.size) = (recOkv (keyOf (s.extract j s.size)) (valOf (s.extract j s.size)) && Lib.hasPrefix (s.extract j s.size).data.toList (recText (keyOf (s.extract j s.size)) (valOf (s.extract j s.size))).data.toList)) := Lib.hid rfl
  have C1 := Lib.hid (fun w => cutB (s.extract j s.size) 10 w (by omega))
  have l1 := cutL_le 10 (s.extract j s.size)
  have C2 := Lib.hid (fun w => cutB (cutL 10 (s.extract j s.size)) 32 w (by omega))
  have l2 := cutR_le 32 (cutL 10 (s.extract j s.size))
  rw [show cutR 32 (cutL 10 (s.extract j s.size)) = pairOf (s.extract j s.size) from rfl] at C2 l2
  have C3 := Lib.hid (fun w => cutB (pairOf (s.extract j s.size)) 61 w (by omega))
  have l3 := cutL_le 61 (pairOf (s.extract j s.size))
  have l4 := cutR_le 61 (pairOf (s.extract j s.size))
  rw [show cutL 61 (pairOf (s.extract j s.size)) = keyOf (s.extract j s.size) from rfl, show cutR 61 (pairOf (s.extract j s.size)) = valOf (s.extract j s.size) from rfl] at C3
  rw [show cutL 61 (pairOf (s.extract j s.size)) = keyOf (s.extract j s.size) from rfl] at l3
  rw [show cutR 61 (pairOf (s.extract j s.size)) = valOf (s.extract j s.size) from rfl] at l4
  generalize hk : keyOf (s.extract j s.size) = k at *
  generalize hv : valOf (s.extract j s.size) = v at *
  generalize pairOf (s.extract j s.size) = p at *
  generalize cutL 10 (s.extract j s.size) = a at *
  have K1 := Lib.hid (fun w => clone_any k w (by omega))
  have K2 := Lib.hid (fun w => clone_any v w (by omega))
  have P1 := Lib.hid (fun w h => putRecord_impl k v w (by omega) (by omega) h)
  have HT := Lib.hid ht
  have HX := Lib.hid (fun w => Tryd.strings_HasPrefix (s.extract j s.size) (recText k v) w)
  generalize recHit (s.extract j s.size) = rh at HI HR
  clear ht hk hv
  go_enter Tryd.func12, Tryd.ntmps12
  go_wp2_with fail
  refine (C1.out _).mono ?_
  rintro e w1 ⟨⟨f1, rfl⟩, hb⟩
  replace RO := Lib.hid (RO.out.below hb RO.out.lt)
  replace B0 := Lib.hid (btR B0.out hb)
  clear hb
  go_wp2_with fail
  refine (C2.out _).mono ?_
  rintro e w2 ⟨⟨f2, rfl⟩, hb⟩
  replace RO := Lib.hid (RO.out.below hb RO.out.lt)
  replace B0 := Lib.hid (btR B0.out hb)
  clear hb
  go_wp2_with fail
  refine (C3.out _).mono ?_
  rintro e w3 ⟨⟨f3, rfl⟩, hb⟩
  replace RO := Lib.hid (RO.out.below hb RO.out.lt)
  replace B0 := Lib.hid (btR B0.out hb)
  clear hb
  go_wp2_with fail
  refine (K1.out _).mono ?_
  rintro e w4 ⟨rfl, hb⟩
  replace RO := Lib.hid (RO.out.below hb RO.out.lt)
  replace B0 := Lib.hid (btR B0.out hb)
  clear hb
  go_wp2_with fail
  refine (K2.out _).mono ?_
  rintro e w5 ⟨rfl, hb⟩
  replace RO := Lib.hid (RO.out.below hb RO.out.lt)
  replace B0 := Lib.hid (btR B0.out hb)
  clear hb
  go_wp2_with fail
  refine (P1.out _ (Lib.tabBelow_of_tabIs HT.out _ (B0.out.alloc (Nat.le_of_lt RO.out.lt) _))).mono ?_
  rintro e w6 ⟨rfl, hb⟩
  have zw : w.heap.size < w5.heap.size := RO.out.lt
  have R1 := Lib.hid ((RecO.new w5 k v).below hb (by simp))
  have hb5 : Below w5.heap.size w5 w6 := ((Below.refl _ w5).alloc (Nat.le_refl _) _).trans (hb.mono (by simp))
  replace RO := Lib.hid (RO.out.below hb5 zw)
  replace B0 := Lib.hid (btR B0.out hb5)
  clear hb hb5
  obtain ⟨c0, c1, f0, f1'⟩ := RO.out.cells
  obtain ⟨d0, d1, g0, g1⟩ := R1.out.cells
  cases hr : recOkv k v with
  | false =>
    have he := empty_tR ((putRec_empty k v).2 hr)
    have HF : Hid (ri = false) := Lib.hid (by rw [HI.out, HR.out, hr]; rfl)
    go_wp2_with fail
    refine bodyPost_ret (res_rec2 rfl _ rfl (RO.out.put ⟨#[]⟩ ⟨#[]⟩)) rfl ?_
    exact ⟨by rw [HK.out, HV.out, HN.out, HF.out]; rfl, below_two B0.out (Nat.le_refl _) _ _⟩
  | true =>
    have he := empty_fR (fun h => by rw [(putRec_empty k v).1 h] at hr; cases hr)
    have HPT : Hid (putRecv k v = recText k v) := Lib.hid (by rw [putRecv, if_pos hr])
    have hps := putRec_le k v
    rw [HPT.out] at he hps ⊢
    cases hx : Lib.hasPrefix (s.extract j s.size).data.toList (recText k v).data.toList with
    | false =>
      have HF : Hid (ri = false) := Lib.hid (by rw [HI.out, HR.out, hx]; simp)
      rw [hx] at HX
      clear hx
      go_wp2_with fail
      refine (HX.out _).mono ?_
      rintro e w7 ⟨rfl, hw⟩
      obtain rfl : w6 = w7 := hw.symm
      go_wp2_with fail
      refine bodyPost_ret (res_rec2 rfl _ rfl (RO.out.put ⟨#[]⟩ ⟨#[]⟩)) rfl ?_
      exact ⟨by rw [HK.out, HV.out, HN.out, HF.out]; rfl, below_two B0.out (Nat.le_refl _) _ _⟩
    | true =>
      have HF : Hid (ri = true) := Lib.hid (by rw [HI.out, HR.out, hx, hr]; rfl)
      rw [hx] at HX
      clear hx
      go_wp2_with fail
      refine (HX.out _).mono ?_
      rintro e w7 ⟨rfl, hw⟩
      obtain rfl : w6 = w7 := hw.symm
      go_wp2_with fail
      refine bodyPost_ret (res_rec2 rfl _ rfl (RO.out.put k v)) rfl ?_
      exact ⟨by rw [HK.out, HV.out, HN.out, HF.out]; rfl, below_two B0.out (Nat.le_refl _) _ _⟩
end Go.Proofs.YtlbanaakjabfnaaDoor
