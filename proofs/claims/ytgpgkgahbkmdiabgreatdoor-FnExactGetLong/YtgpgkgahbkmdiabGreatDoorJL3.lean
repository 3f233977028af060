/- Texts joined: LgRdS, GetLgI, LgMath, HeadL, LgGetS, EntEq, GetLongLaw. -/
import Derived.Test.YtgpgkgahbkmdiabGreatDoorHeadSum
import Derived.BigRegion
import Derived.Test.YtgpgkgahbkmdiabGreatDoorOctMath
import Derived.Deep.RegionWith
import Derived.Deep.RegionHeld3
import Derived.Test.YtgpgkgahbkmdiabGreatDoorJL2
/- Contracts of spec.l06Get and spec.l06Read. -/
namespace Go.Proofs.YtgpgkgahbkmdiabGreatDoor
open Go.ChangeShapes Go.WideShapes Go.ChangeAt Go.RowKit

/-- The number of a field that may stand in binary, as the model reads it. -/
def gNum (f : ByteArray) (most : Int) : Int × Bool := if f.data.toList.head? = some 128 then ((bigv f).1, (bigv f).2 && decide (most < (bigv f).1)) else (fnumv f, fnumOk f)
theorem l06Get_spec (f : ByteArray) (most : Int) (w : World) (h1 : 1 ≤ f.size) (h2 : f.size ≤ 4194304) :
    Calls Tryz.prog 61 #[.string f, .int .i64 most] w fun e w' => e = .returned (.tuple #[.int .i64 (gNum f most).1, .bool (gNum f most).2]) ∧ Below w.heap.size w w' := by
  have hpos : 0 < f.size := by omega
  by_cases hq : f[0] = 128
  · have HE : Hid (gNum f most = ((bigv f).1, (bigv f).2 && decide (most < (bigv f).1))) := Lib.hid (by rw [gNum, if_pos (by rw [head_at f hpos, hq])])
    rw [HE.out]
    have H := Lib.hid (fun w => getBig_spec f w (by omega))
    generalize bigv f = bp at *
    obtain ⟨n, o⟩ := bp
    simp only at H ⊢
    have q0 : (0 : Int) < (f.size : Int) := by omega
    have q1 : (((f[0]).toNat : Nat) : Int) = 128 := by rw [hq]; rfl
    clear HE hq
    cases o with
    | true =>
      rw [Bool.true_and]
      go_enter Tryz.func61, Tryz.ntmps61
      go_wp2_with fail
      refine (H.out _).mono ?_
      rintro e w1 ⟨rfl, rfl⟩
      go_wp2
      go_ret2
      exact ⟨rfl, Below.refl _ _⟩
    | false =>
      rw [Bool.false_and]
      go_enter Tryz.func61, Tryz.ntmps61
      go_wp2_with fail
      refine (H.out _).mono ?_
      rintro e w1 ⟨rfl, rfl⟩
      go_wp2
      go_ret2
      exact ⟨rfl, Below.refl _ _⟩
  · have HE : Hid (gNum f most = (fnumv f, fnumOk f)) := Lib.hid (by rw [gNum, if_neg (by rw [head_at f hpos]; simpa using hq)])
    rw [HE.out]
    have H := Lib.hid (fun w => num_spec f w h1 h2)
    generalize fnumv f = n at *
    generalize fnumOk f = o at *
    have q0 : (0 : Int) < (f.size : Int) := by omega
    have q1 : ¬ (((f[0]).toNat : Nat) : Int) = 128 := fun h => hq (by
      apply UInt8.toNat_inj.1
      have : (f[0]).toNat = 128 := by omega
      rw [this]; rfl)
    clear HE hq
    go_enter Tryz.func61, Tryz.ntmps61
    go_wp2_with fail
    refine (H.out _).mono ?_
    rintro e w1 ⟨rfl, hb⟩
    go_wp2
    go_ret2
    exact ⟨rfl, hb⟩
def okS (s : ByteArray) : Bool := fnumOk (s.extract 100 108) && (gNum (s.extract 108 116) 2097151).2 && (gNum (s.extract 116 124) 2097151).2 && fnumOk (s.extract 124 136) && (gNum (s.extract 136 148) 8589934591).2 && decide (fnumv (s.extract 124 136) ≤ 3000)
def rdL (s : ByteArray) : Int := if s.size < 512 then 1 else if sumOkv s = false then 2 else if okS s = false then 3 else 0
def entS (s : ByteArray) : Ent := ⟨0, cutv (s.extract 0 100), cutv (s.extract 157 257), fnumv (s.extract 100 108), (gNum (s.extract 108 116) 2097151).1, (gNum (s.extract 116 124) 2097151).1, (gNum (s.extract 136 148) 8589934591).1, cutv (s.extract 265 297), cutv (s.extract 297 329), ⟨#[]⟩⟩
def readLS (s : ByteArray) : Value := if rdL s = 0 then .tuple #[.agg (entS s).cells.toArray, .string (s.extract 156 157), .int .i64 (fnumv (s.extract 124 136)), .int .i64 0] else .tuple #[.agg zEnt, .string ⟨#[]⟩, .int .i64 0, .int .i64 (rdL s)]
theorem readLS_bad {s : ByteArray} {c : Int} (h : rdL s = c) (hc : ¬ c = 0) : readLS s = .tuple #[.agg zEnt, .string ⟨#[]⟩, .int .i64 0, .int .i64 c] := by rw [readLS, h, if_neg hc]

set_option maxHeartbeats 6400000 in
set_option maxRecDepth 8000 in
theorem l06Read_spec (s : ByteArray) (w : World) (hs : s.size ≤ 1048576) :
    Calls Tryz.prog 27 #[.string s] w fun e w' => e = .returned (readLS s) ∧ Below w.heap.size w w' := by
  have B0 := Lib.hid ((Below.refl w.heap.size w).alloc (Nat.le_refl _) (.cells zEnt 23))
  have R0 : Hid ((w.alloc (.cells zEnt 23)).heap[w.heap.size]? = some (.cells zEnt 23 (0, 0))) := Lib.hid (heap_alloc_last _ _)
  have HSt0 := Lib.hid (run_storeVar_new (P := Tryz.prog) w 23 zEnt zEnt (by rw [Tryz.sizeEnt]; rfl) rfl (by simp [zEnt, Value.oneCell']))
  by_cases h5 : (s.size : Int) < 512
  · have HE := Lib.hid (readLS_bad (s := s) (c := 1) (by rw [rdL, if_pos (by omega)]) (by omega))
    go_enter Tryz.func27, Tryz.ntmps27
    go_wp2_with ((with_reducible refine wpList_store_eq rfl 23 _ _ rfl ⟨w.heap.size, 0, none⟩ ?_ ?_ HSt0.out ?_); rfl; rfl)
    refine bodyPost_ret (results_cell4 rfl _ _ w.heap.size _ zEnt (0, 0) _ rfl R0.out Tryz.underlying23 rfl (by rw [Tryz.sizeEnt]; rfl)) rfl ?_
    rw [HE.out]
    exact ⟨rfl, B0.out⟩
  · have h512 : 512 ≤ s.size := by omega
    have H1 := Lib.hid (fun w => getOct_spec (s.extract 148 154) w (by rw [ByteArray.size_extract]; omega))
    have H2 := Lib.hid (fun w => headSum_spec s w hs)
    have HQ := Lib.hid (sum_iff h512)
    have HR2 : Hid (sumOkv s = false → rdL s = 2) := Lib.hid (fun h => by rw [rdL, if_neg (by omega), if_pos h])
    have HR3 : Hid (sumOkv s = true → okS s = false → rdL s = 3) := Lib.hid (fun h h2 => by rw [rdL, if_neg (by omega), if_neg (by rw [h]; simp), if_pos h2])
    have HR0 : Hid (sumOkv s = true → okS s = true → rdL s = 0) := Lib.hid (fun h h2 => by rw [rdL, if_neg (by omega), if_neg (by rw [h]; simp), if_neg (by rw [h2]; simp)])
    generalize getOctv (s.extract 148 154).data.toList = pr at *
    obtain ⟨n6, o6⟩ := pr
    simp only at H1 HQ
    have c1 : (154 : Int) ≤ (s.size : Int) := by omega
    have c2 : (156 : Int) ≤ (s.size : Int) := by omega
    have bad : ∀ w1, Below (w.alloc (.cells zEnt 23)).heap.size (w.alloc (.cells zEnt 23)) w1 → w1.heap[w.heap.size]? = some (.cells zEnt 23 (0, 0)) ∧ Below w.heap.size w w1 := fun w1 hb => ⟨(hb.block _ (obj_lt R0.out)).trans R0.out, B0.out.trans (hb.mono B0.out.size)⟩
    have BAD := Lib.hid bad
    clear bad
    cases o6 with
    | false =>
      have HE := Lib.hid (readLS_bad (s := s) (c := 2) (HR2.out (by cases h : sumOkv s with | false => rfl | true => have := (HQ.out.1 h).1; cases this)) (by omega))
      go_enter Tryz.func27, Tryz.ntmps27
      go_wp2_with fail
      refine (H1.out _).mono ?_
      rintro e w1 ⟨rfl, rfl⟩
      go_wp2_with ((with_reducible refine wpList_store_eq rfl 23 _ _ rfl ⟨w.heap.size, 0, none⟩ ?_ ?_ HSt0.out ?_); rfl; rfl)
      refine bodyPost_ret (results_cell4 rfl _ _ w.heap.size _ zEnt (0, 0) _ rfl R0.out Tryz.underlying23 rfl (by rw [Tryz.sizeEnt]; rfl)) rfl ?_
      rw [HE.out]
      exact ⟨rfl, B0.out⟩
    | true =>
      by_cases h2 : s.extract 154 156 = ⟨#[0, 32]⟩
      · have q2 := lit_eq (s := s.extract 154 156) (l := [0, 32]) h2
        by_cases h3 : n6 = headSumv s
        · have hok : sumOkv s = true := HQ.out.2 ⟨rfl, h2, h3⟩
          have HS3 := Lib.hid (HR3.out hok)
          have HS0 := Lib.hid (HR0.out hok)
          subst h3
          have q3 : (headSumv s != headSumv s) = false := by simp
          clear HQ HR2 HR3 HR0 hok h2
          generalize headSumv s = hsv at *
          go_enter Tryz.func27, Tryz.ntmps27
          go_wp2_with fail
          refine (H1.out _).mono ?_
          rintro e w1 ⟨rfl, rfl⟩
          go_wp2_with fail
          refine (H2.out _).mono ?_
          rintro e w1 ⟨rfl, hb⟩
          obtain ⟨R1, B1⟩ := BAD.out w1 hb
          clear hb
          have RO1 := Lib.hid R1
          have BW1 := Lib.hid B1
          clear R1 B1 H1 H2 BAD HSt0 R0 B0 q2 q3
          have z1 : (s.extract 100 108).size = 8 := by rw [ByteArray.size_extract]; omega
          have N1 := Lib.hid (fun w => num_spec (s.extract 100 108) w (by omega) (by omega))
          have z2 : (s.extract 108 116).size = 8 := by rw [ByteArray.size_extract]; omega
          have N2 := Lib.hid (fun w => l06Get_spec (s.extract 108 116) 2097151 w (by omega) (by omega))
          have z3 : (s.extract 116 124).size = 8 := by rw [ByteArray.size_extract]; omega
          have N3 := Lib.hid (fun w => l06Get_spec (s.extract 116 124) 2097151 w (by omega) (by omega))
          have z4 : (s.extract 124 136).size = 12 := by rw [ByteArray.size_extract]; omega
          have N4 := Lib.hid (fun w => num_spec (s.extract 124 136) w (by omega) (by omega))
          have z5 : (s.extract 136 148).size = 12 := by rw [ByteArray.size_extract]; omega
          have N5 := Lib.hid (fun w => l06Get_spec (s.extract 136 148) 8589934591 w (by omega) (by omega))
          have Qpth : Hid (∀ w, Calls Tryz.prog 49 #[.string (s.extract 0 100)] w fun e w' => e = .returned (.string (cutv (s.extract 0 100))) ∧ Below w.heap.size w w') := Lib.hid (fun w => (cut_spec (s.extract 0 100) w (by rw [ByteArray.size_extract]; omega)).mono (by rintro e w' ⟨h, rfl⟩; exact ⟨h, Below.refl _ _⟩))
          have Qlk : Hid (∀ w, Calls Tryz.prog 49 #[.string (s.extract 157 257)] w fun e w' => e = .returned (.string (cutv (s.extract 157 257))) ∧ Below w.heap.size w w') := Lib.hid (fun w => (cut_spec (s.extract 157 257) w (by rw [ByteArray.size_extract]; omega)).mono (by rintro e w' ⟨h, rfl⟩; exact ⟨h, Below.refl _ _⟩))
          have Qus : Hid (∀ w, Calls Tryz.prog 49 #[.string (s.extract 265 297)] w fun e w' => e = .returned (.string (cutv (s.extract 265 297))) ∧ Below w.heap.size w w') := Lib.hid (fun w => (cut_spec (s.extract 265 297) w (by rw [ByteArray.size_extract]; omega)).mono (by rintro e w' ⟨h, rfl⟩; exact ⟨h, Below.refl _ _⟩))
          have Qgr : Hid (∀ w, Calls Tryz.prog 49 #[.string (s.extract 297 329)] w fun e w' => e = .returned (.string (cutv (s.extract 297 329))) ∧ Below w.heap.size w w') := Lib.hid (fun w => (cut_spec (s.extract 297 329) w (by rw [ByteArray.size_extract]; omega)).mono (by rintro e w' ⟨h, rfl⟩; exact ⟨h, Below.refl _ _⟩))
          have HOK : Hid (okS s = (fnumOk (s.extract 100 108) && (gNum (s.extract 108 116) 2097151).2 && (gNum (s.extract 116 124) 2097151).2 && fnumOk (s.extract 124 136) && (gNum (s.extract 136 148) 8589934591).2 && decide (fnumv (s.extract 124 136) ≤ 3000))) := Lib.hid rfl
          have HG : Hid (rdL s = 0 → readLS s = .tuple #[.agg #[.int .i64 0, .string (cutv (s.extract 0 100)), .string (cutv (s.extract 157 257)), .int .i64 (fnumv (s.extract 100 108)), .int .i64 (gNum (s.extract 108 116) 2097151).1, .int .i64 (gNum (s.extract 116 124) 2097151).1, .int .i64 (gNum (s.extract 136 148) 8589934591).1, .string (cutv (s.extract 265 297)), .string (cutv (s.extract 297 329)), .string ⟨#[]⟩], .string (s.extract 156 157), .int .i64 (fnumv (s.extract 124 136)), .int .i64 0]) := Lib.hid (fun h => by rw [readLS, if_pos h]; rfl)
          have HBad := Lib.hid (fun h => readLS_bad (s := s) (c := 3) (HS3.out h) (by omega))
          generalize fnumv (s.extract 100 108) = n1 at *
          generalize fnumOk (s.extract 100 108) = o1 at *
          generalize gNum (s.extract 108 116) 2097151 = p2 at *
          obtain ⟨n2, o2⟩ := p2
          simp only at N2 HOK HG
          generalize gNum (s.extract 116 124) 2097151 = p3 at *
          obtain ⟨n3, o3⟩ := p3
          simp only at N3 HOK HG
          generalize fnumv (s.extract 124 136) = n4 at *
          generalize fnumOk (s.extract 124 136) = o4 at *
          generalize gNum (s.extract 136 148) 8589934591 = p5 at *
          obtain ⟨n5, o5⟩ := p5
          simp only at N5 HOK HG
          generalize cutv (s.extract 0 100) = pth at *
          generalize cutv (s.extract 157 257) = lk at *
          generalize cutv (s.extract 265 297) = us at *
          generalize cutv (s.extract 297 329) = gr at *
          have d1 : (108 : Int) ≤ (s.size : Int) := by omega
          have d2 : (116 : Int) ≤ (s.size : Int) := by omega
          have d3 : (124 : Int) ≤ (s.size : Int) := by omega
          have d4 : (136 : Int) ≤ (s.size : Int) := by omega
          have d5 : (148 : Int) ≤ (s.size : Int) := by omega
          have d6 : (100 : Int) ≤ (s.size : Int) := by omega
          have d7 : (257 : Int) ≤ (s.size : Int) := by omega
          have d8 : (297 : Int) ≤ (s.size : Int) := by omega
          have d9 : (329 : Int) ≤ (s.size : Int) := by omega
          have d10 : (157 : Int) ≤ (s.size : Int) := by omega
          clear z1 z2 z3 z4 z5
          go_wp2_with fail
          refine (N1.out _).mono ?_
          rintro e wn1 ⟨rfl, hb⟩
          replace RO1 := Lib.hid ((hb.block _ (obj_lt RO1.out)).trans RO1.out)
          replace BW1 := Lib.hid (BW1.out.trans (hb.mono BW1.out.size))
          clear hb N1
          go_wp2_with fail
          refine (N2.out _).mono ?_
          rintro e wn2 ⟨rfl, hb⟩
          replace RO1 := Lib.hid ((hb.block _ (obj_lt RO1.out)).trans RO1.out)
          replace BW1 := Lib.hid (BW1.out.trans (hb.mono BW1.out.size))
          clear hb N2
          go_wp2_with fail
          refine (N3.out _).mono ?_
          rintro e wn3 ⟨rfl, hb⟩
          replace RO1 := Lib.hid ((hb.block _ (obj_lt RO1.out)).trans RO1.out)
          replace BW1 := Lib.hid (BW1.out.trans (hb.mono BW1.out.size))
          clear hb N3
          go_wp2_with fail
          refine (N4.out _).mono ?_
          rintro e wn4 ⟨rfl, hb⟩
          replace RO1 := Lib.hid ((hb.block _ (obj_lt RO1.out)).trans RO1.out)
          replace BW1 := Lib.hid (BW1.out.trans (hb.mono BW1.out.size))
          clear hb N4
          go_wp2_with fail
          refine (N5.out _).mono ?_
          rintro e wn5 ⟨rfl, hb⟩
          replace RO1 := Lib.hid ((hb.block _ (obj_lt RO1.out)).trans RO1.out)
          replace BW1 := Lib.hid (BW1.out.trans (hb.mono BW1.out.size))
          clear hb N5
          have HSt := Lib.hid (run_storeVar_row (P := Tryz.prog) wn5 w.heap.size 23 23 zEnt zEnt RO1.out (by rw [Tryz.sizeEnt]; rfl) rfl (by simp [zEnt, Value.oneCell']))
          cases o1 with
          | false =>
            have HE := Lib.hid (HBad.out (by rw [HOK.out]; simp))
            clear HOK HG HBad
            go_wp2_with ((with_reducible refine wpList_store_eq rfl 23 _ _ rfl ⟨w.heap.size, 0, none⟩ ?_ ?_ HSt.out ?_); rfl; rfl)
            refine bodyPost_ret (results_cell4 rfl _ _ w.heap.size _ zEnt (0, 0) _ rfl (setRow_heap _ _ _ _ _ _ RO1.out) Tryz.underlying23 rfl (by rw [Tryz.sizeEnt]; rfl)) rfl ?_
            rw [HE.out]
            exact ⟨rfl, BW1.out.trans (below_set (Nat.le_refl _) _)⟩
          | true =>
            cases o2 with
            | false =>
              have HE := Lib.hid (HBad.out (by rw [HOK.out]; simp))
              clear HOK HG HBad
              go_wp2_with ((with_reducible refine wpList_store_eq rfl 23 _ _ rfl ⟨w.heap.size, 0, none⟩ ?_ ?_ HSt.out ?_); rfl; rfl)
              refine bodyPost_ret (results_cell4 rfl _ _ w.heap.size _ zEnt (0, 0) _ rfl (setRow_heap _ _ _ _ _ _ RO1.out) Tryz.underlying23 rfl (by rw [Tryz.sizeEnt]; rfl)) rfl ?_
              rw [HE.out]
              exact ⟨rfl, BW1.out.trans (below_set (Nat.le_refl _) _)⟩
            | true =>
              cases o3 with
              | false =>
                have HE := Lib.hid (HBad.out (by rw [HOK.out]; simp))
                clear HOK HG HBad
                go_wp2_with ((with_reducible refine wpList_store_eq rfl 23 _ _ rfl ⟨w.heap.size, 0, none⟩ ?_ ?_ HSt.out ?_); rfl; rfl)
                refine bodyPost_ret (results_cell4 rfl _ _ w.heap.size _ zEnt (0, 0) _ rfl (setRow_heap _ _ _ _ _ _ RO1.out) Tryz.underlying23 rfl (by rw [Tryz.sizeEnt]; rfl)) rfl ?_
                rw [HE.out]
                exact ⟨rfl, BW1.out.trans (below_set (Nat.le_refl _) _)⟩
              | true =>
                cases o4 with
                | false =>
                  have HE := Lib.hid (HBad.out (by rw [HOK.out]; simp))
                  clear HOK HG HBad
                  go_wp2_with ((with_reducible refine wpList_store_eq rfl 23 _ _ rfl ⟨w.heap.size, 0, none⟩ ?_ ?_ HSt.out ?_); rfl; rfl)
                  refine bodyPost_ret (results_cell4 rfl _ _ w.heap.size _ zEnt (0, 0) _ rfl (setRow_heap _ _ _ _ _ _ RO1.out) Tryz.underlying23 rfl (by rw [Tryz.sizeEnt]; rfl)) rfl ?_
                  rw [HE.out]
                  exact ⟨rfl, BW1.out.trans (below_set (Nat.le_refl _) _)⟩
                | true =>
                  cases o5 with
                  | false =>
                    have HE := Lib.hid (HBad.out (by rw [HOK.out]; simp))
                    clear HOK HG HBad
                    go_wp2_with ((with_reducible refine wpList_store_eq rfl 23 _ _ rfl ⟨w.heap.size, 0, none⟩ ?_ ?_ HSt.out ?_); rfl; rfl)
                    refine bodyPost_ret (results_cell4 rfl _ _ w.heap.size _ zEnt (0, 0) _ rfl (setRow_heap _ _ _ _ _ _ RO1.out) Tryz.underlying23 rfl (by rw [Tryz.sizeEnt]; rfl)) rfl ?_
                    rw [HE.out]
                    exact ⟨rfl, BW1.out.trans (below_set (Nat.le_refl _) _)⟩
                  | true =>
                    by_cases h3000 : n4 ≤ 3000
                    · have HE := Lib.hid (HG.out (HS0.out (by rw [HOK.out]; simp [h3000])))
                      clear HOK HG HBad HS0 HS3 HSt
                      have zR := obj_lt RO1.out
                      go_wp2_with fail
                      refine wp_region_u (by kernel_rfl) (fun w' => Below w.heap.size w w' ∧ (w'.heap[w.heap.size]? = some (.cells zEnt 23 (0, 0)) ∨ w'.heap[w.heap.size]? = some (.cells #[.int .i64 0, .string pth, .string lk, .int .i64 n1, .int .i64 n2, .int .i64 n3, .int .i64 n5, .string us, .string gr, .string ⟨#[]⟩] 23 (0, 0)))) (fun x y => y.heap[w.heap.size]? = x.heap[w.heap.size]? ∨ y.heap[w.heap.size]? = some (.cells #[.int .i64 0, .string pth, .string lk, .int .i64 n1, .int .i64 n2, .int .i64 n3, .int .i64 n5, .string us, .string gr, .string ⟨#[]⟩] 23 (0, 0))) (fun d v _ => match d with | 95 => v = .string s | 96 => v = .string (s.extract 0 100) | 97 => v = .string pth | 98 => v = .string s | 99 => v = .string (s.extract 157 257) | 100 => v = .string lk | 101 => v = .int .i64 n1 | 102 => v = .int .i64 n2 | 103 => v = .int .i64 n3 | 104 => v = .int .i64 n5 | 105 => v = .string s | 106 => v = .string (s.extract 265 297) | 107 => v = .string us | 108 => v = .string s | 109 => v = .string (s.extract 297 329) | 110 => v = .string gr | 111 => v = .agg #[.int .i64 0, .string pth, .string lk, .int .i64 n1, .int .i64 n2, .int .i64 n3, .int .i64 n5, .string us, .string gr, .string ⟨#[]⟩] | 112 => v = .string s | 113 => v = .string (s.extract 156 157) | 114 => v = .int .i64 n4 | 3 => v = .string (s.extract 156 157) | 4 => v = .int .i64 n4 | 5 => v = .int .i64 0 | _ => True) (fun o w' => o.dst = none → w'.heap[w.heap.size]? = some (.cells #[.int .i64 0, .string pth, .string lk, .int .i64 n1, .int .i64 n2, .int .i64 n3, .int .i64 n5, .string us, .string gr, .string ⟨#[]⟩] 23 (0, 0))) (by kernel_rfl) ⟨BW1.out.drew, .inl RO1.out⟩ (fun _ _ _ _ _ _ h => h) (fun _ _ _ _ hs hu hd => Or.elim hs (fun h => h.trans (hu hd)) (fun h => h)) ?hops ?hend
                      case hops =>
                        simp only [List.forall_mem_cons]
                        refine ⟨?o95, ?o96, ?o97, ?o98, ?o99, ?o100, ?o101, ?o102, ?o103, ?o104, ?o105, ?o106, ?o107, ?o108, ?o109, ?o110, ?o111, ?o112, ?o113, ?o114, ?os20, ?o3, ?o4, ?o5, fun _ h => by cases h⟩
                        case o95 =>
                          intro Q a w2 hC hV hI
                          have e0 : a.eval (.tmp 0) = .string s := (hI 0 (by simp [Op.operands]) (by kernel_rfl)).trans rfl
                          have f0 : a.tmps.getD 0 undef = .string s := e0
                          have g0 : a.tmps[0]?.getD undef = .string s := by rw [← Array.getD_eq_getD_getElem?]; exact e0
                          refine opU_val (C := fun w' => Below w.heap.size w w' ∧ (w'.heap[w.heap.size]? = some (.cells zEnt 23 (0, 0)) ∨ w'.heap[w.heap.size]? = some (.cells #[.int .i64 0, .string pth, .string lk, .int .i64 n1, .int .i64 n2, .int .i64 n3, .int .i64 n5, .string us, .string gr, .string ⟨#[]⟩] 23 (0, 0)))) (St := fun x y => y.heap[w.heap.size]? = x.heap[w.heap.size]? ∨ y.heap[w.heap.size]? = some (.cells #[.int .i64 0, .string pth, .string lk, .int .i64 n1, .int .i64 n2, .int .i64 n3, .int .i64 n5, .string us, .string gr, .string ⟨#[]⟩] 23 (0, 0))) (V := fun d v _ => match d with | 95 => v = .string s | 96 => v = .string (s.extract 0 100) | 97 => v = .string pth | 98 => v = .string s | 99 => v = .string (s.extract 157 257) | 100 => v = .string lk | 101 => v = .int .i64 n1 | 102 => v = .int .i64 n2 | 103 => v = .int .i64 n3 | 104 => v = .int .i64 n5 | 105 => v = .string s | 106 => v = .string (s.extract 265 297) | 107 => v = .string us | 108 => v = .string s | 109 => v = .string (s.extract 297 329) | 110 => v = .string gr | 111 => v = .agg #[.int .i64 0, .string pth, .string lk, .int .i64 n1, .int .i64 n2, .int .i64 n3, .int .i64 n5, .string us, .string gr, .string ⟨#[]⟩] | 112 => v = .string s | 113 => v = .string (s.extract 156 157) | 114 => v = .int .i64 n4 | 3 => v = .string (s.extract 156 157) | 4 => v = .int .i64 n4 | 5 => v = .int .i64 0 | _ => True) (U := fun o w' => o.dst = none → w'.heap[w.heap.size]? = some (.cells #[.int .i64 0, .string pth, .string lk, .int .i64 n1, .int .i64 n2, .int .i64 n3, .int .i64 n5, .string us, .string gr, .string ⟨#[]⟩] 23 (0, 0))) (w' := w2) (.string s) ?_ ?_ ?_ ?_ ?_
                          · (clear hV hI hC; go_simp <;> (first | rfl | simp))
                          · exact hC
                          · exact Or.inl rfl
                          · intro d hd; cases hd; rfl
                          · intro h; cases h
                        case o96 =>
                          intro Q a w2 hC hV hI
                          have e95 : a.eval (.tmp 95) = .string s := hV 95 (by simp [Op.operands]) (by kernel_rfl)
                          have f95 : a.tmps.getD 95 undef = .string s := e95
                          have g95 : a.tmps[95]?.getD undef = .string s := by rw [← Array.getD_eq_getD_getElem?]; exact e95
                          refine opU_val (C := fun w' => Below w.heap.size w w' ∧ (w'.heap[w.heap.size]? = some (.cells zEnt 23 (0, 0)) ∨ w'.heap[w.heap.size]? = some (.cells #[.int .i64 0, .string pth, .string lk, .int .i64 n1, .int .i64 n2, .int .i64 n3, .int .i64 n5, .string us, .string gr, .string ⟨#[]⟩] 23 (0, 0)))) (St := fun x y => y.heap[w.heap.size]? = x.heap[w.heap.size]? ∨ y.heap[w.heap.size]? = some (.cells #[.int .i64 0, .string pth, .string lk, .int .i64 n1, .int .i64 n2, .int .i64 n3, .int .i64 n5, .string us, .string gr, .string ⟨#[]⟩] 23 (0, 0))) (V := fun d v _ => match d with | 95 => v = .string s | 96 => v = .string (s.extract 0 100) | 97 => v = .string pth | 98 => v = .string s | 99 => v = .string (s.extract 157 257) | 100 => v = .string lk | 101 => v = .int .i64 n1 | 102 => v = .int .i64 n2 | 103 => v = .int .i64 n3 | 104 => v = .int .i64 n5 | 105 => v = .string s | 106 => v = .string (s.extract 265 297) | 107 => v = .string us | 108 => v = .string s | 109 => v = .string (s.extract 297 329) | 110 => v = .string gr | 111 => v = .agg #[.int .i64 0, .string pth, .string lk, .int .i64 n1, .int .i64 n2, .int .i64 n3, .int .i64 n5, .string us, .string gr, .string ⟨#[]⟩] | 112 => v = .string s | 113 => v = .string (s.extract 156 157) | 114 => v = .int .i64 n4 | 3 => v = .string (s.extract 156 157) | 4 => v = .int .i64 n4 | 5 => v = .int .i64 0 | _ => True) (U := fun o w' => o.dst = none → w'.heap[w.heap.size]? = some (.cells #[.int .i64 0, .string pth, .string lk, .int .i64 n1, .int .i64 n2, .int .i64 n3, .int .i64 n5, .string us, .string gr, .string ⟨#[]⟩] 23 (0, 0))) (w' := w2) (.string (s.extract 0 100)) ?_ ?_ ?_ ?_ ?_
                          · (clear hV hI hC; go_simp <;> (first | rfl | simp))
                          · exact hC
                          · exact Or.inl rfl
                          · intro d hd; cases hd; rfl
                          · intro h; cases h
                        case o97 =>
                          intro Q a w2 hC hV hI
                          have e96 : a.eval (.tmp 96) = .string (s.extract 0 100) := hV 96 (by simp [Op.operands, Call.operands]) (by kernel_rfl)
                          have f96 : a.tmps.getD 96 undef = .string (s.extract 0 100) := e96
                          have g96 : a.tmps[96]?.getD undef = .string (s.extract 0 100) := by rw [← Array.getD_eq_getD_getElem?]; exact e96
                          refine opU_call (C := fun w' => Below w.heap.size w w' ∧ (w'.heap[w.heap.size]? = some (.cells zEnt 23 (0, 0)) ∨ w'.heap[w.heap.size]? = some (.cells #[.int .i64 0, .string pth, .string lk, .int .i64 n1, .int .i64 n2, .int .i64 n3, .int .i64 n5, .string us, .string gr, .string ⟨#[]⟩] 23 (0, 0)))) (St := fun x y => y.heap[w.heap.size]? = x.heap[w.heap.size]? ∨ y.heap[w.heap.size]? = some (.cells #[.int .i64 0, .string pth, .string lk, .int .i64 n1, .int .i64 n2, .int .i64 n3, .int .i64 n5, .string us, .string gr, .string ⟨#[]⟩] 23 (0, 0))) (V := fun d v _ => match d with | 95 => v = .string s | 96 => v = .string (s.extract 0 100) | 97 => v = .string pth | 98 => v = .string s | 99 => v = .string (s.extract 157 257) | 100 => v = .string lk | 101 => v = .int .i64 n1 | 102 => v = .int .i64 n2 | 103 => v = .int .i64 n3 | 104 => v = .int .i64 n5 | 105 => v = .string s | 106 => v = .string (s.extract 265 297) | 107 => v = .string us | 108 => v = .string s | 109 => v = .string (s.extract 297 329) | 110 => v = .string gr | 111 => v = .agg #[.int .i64 0, .string pth, .string lk, .int .i64 n1, .int .i64 n2, .int .i64 n3, .int .i64 n5, .string us, .string gr, .string ⟨#[]⟩] | 112 => v = .string s | 113 => v = .string (s.extract 156 157) | 114 => v = .int .i64 n4 | 3 => v = .string (s.extract 156 157) | 4 => v = .int .i64 n4 | 5 => v = .int .i64 0 | _ => True) (U := fun o w' => o.dst = none → w'.heap[w.heap.size]? = some (.cells #[.int .i64 0, .string pth, .string lk, .int .i64 n1, .int .i64 n2, .int .i64 n3, .int .i64 n5, .string us, .string gr, .string ⟨#[]⟩] 23 (0, 0))) (f := 49) (args := #[.string (s.extract 0 100)]) (R := fun v y => v = .string pth ∧ Below w2.heap.size w2 y) ?_ ((Qpth.out w2).mono ?_) ?_
                          · (clear hV hI hC; go_simp <;> (first | rfl | simp))
                          · rintro e y ⟨rfl, hb⟩; exact ⟨_, rfl, rfl, hb⟩
                          · rintro v y ⟨rfl, hb⟩; exact ⟨⟨hC.1.trans (hb.mono hC.1.size), hC.2.imp (fun h => (hb.block _ (obj_lt h)).trans h) (fun h => (hb.block _ (obj_lt h)).trans h)⟩, .inl (hb.block _ (hC.2.elim obj_lt obj_lt)), (by intro d hd; cases hd; rfl), fun h => (by cases h)⟩
                        case o98 =>
                          intro Q a w2 hC hV hI
                          have e0 : a.eval (.tmp 0) = .string s := (hI 0 (by simp [Op.operands]) (by kernel_rfl)).trans rfl
                          have f0 : a.tmps.getD 0 undef = .string s := e0
                          have g0 : a.tmps[0]?.getD undef = .string s := by rw [← Array.getD_eq_getD_getElem?]; exact e0
                          refine opU_val (C := fun w' => Below w.heap.size w w' ∧ (w'.heap[w.heap.size]? = some (.cells zEnt 23 (0, 0)) ∨ w'.heap[w.heap.size]? = some (.cells #[.int .i64 0, .string pth, .string lk, .int .i64 n1, .int .i64 n2, .int .i64 n3, .int .i64 n5, .string us, .string gr, .string ⟨#[]⟩] 23 (0, 0)))) (St := fun x y => y.heap[w.heap.size]? = x.heap[w.heap.size]? ∨ y.heap[w.heap.size]? = some (.cells #[.int .i64 0, .string pth, .string lk, .int .i64 n1, .int .i64 n2, .int .i64 n3, .int .i64 n5, .string us, .string gr, .string ⟨#[]⟩] 23 (0, 0))) (V := fun d v _ => match d with | 95 => v = .string s | 96 => v = .string (s.extract 0 100) | 97 => v = .string pth | 98 => v = .string s | 99 => v = .string (s.extract 157 257) | 100 => v = .string lk | 101 => v = .int .i64 n1 | 102 => v = .int .i64 n2 | 103 => v = .int .i64 n3 | 104 => v = .int .i64 n5 | 105 => v = .string s | 106 => v = .string (s.extract 265 297) | 107 => v = .string us | 108 => v = .string s | 109 => v = .string (s.extract 297 329) | 110 => v = .string gr | 111 => v = .agg #[.int .i64 0, .string pth, .string lk, .int .i64 n1, .int .i64 n2, .int .i64 n3, .int .i64 n5, .string us, .string gr, .string ⟨#[]⟩] | 112 => v = .string s | 113 => v = .string (s.extract 156 157) | 114 => v = .int .i64 n4 | 3 => v = .string (s.extract 156 157) | 4 => v = .int .i64 n4 | 5 => v = .int .i64 0 | _ => True) (U := fun o w' => o.dst = none → w'.heap[w.heap.size]? = some (.cells #[.int .i64 0, .string pth, .string lk, .int .i64 n1, .int .i64 n2, .int .i64 n3, .int .i64 n5, .string us, .string gr, .string ⟨#[]⟩] 23 (0, 0))) (w' := w2) (.string s) ?_ ?_ ?_ ?_ ?_
                          · (clear hV hI hC; go_simp <;> (first | rfl | simp))
                          · exact hC
                          · exact Or.inl rfl
                          · intro d hd; cases hd; rfl
                          · intro h; cases h
                        case o99 =>
                          intro Q a w2 hC hV hI
                          have e98 : a.eval (.tmp 98) = .string s := hV 98 (by simp [Op.operands]) (by kernel_rfl)
                          have f98 : a.tmps.getD 98 undef = .string s := e98
                          have g98 : a.tmps[98]?.getD undef = .string s := by rw [← Array.getD_eq_getD_getElem?]; exact e98
                          refine opU_val (C := fun w' => Below w.heap.size w w' ∧ (w'.heap[w.heap.size]? = some (.cells zEnt 23 (0, 0)) ∨ w'.heap[w.heap.size]? = some (.cells #[.int .i64 0, .string pth, .string lk, .int .i64 n1, .int .i64 n2, .int .i64 n3, .int .i64 n5, .string us, .string gr, .string ⟨#[]⟩] 23 (0, 0)))) (St := fun x y => y.heap[w.heap.size]? = x.heap[w.heap.size]? ∨ y.heap[w.heap.size]? = some (.cells #[.int .i64 0, .string pth, .string lk, .int .i64 n1, .int .i64 n2, .int .i64 n3, .int .i64 n5, .string us, .string gr, .string ⟨#[]⟩] 23 (0, 0))) (V := fun d v _ => match d with | 95 => v = .string s | 96 => v = .string (s.extract 0 100) | 97 => v = .string pth | 98 => v = .string s | 99 => v = .string (s.extract 157 257) | 100 => v = .string lk | 101 => v = .int .i64 n1 | 102 => v = .int .i64 n2 | 103 => v = .int .i64 n3 | 104 => v = .int .i64 n5 | 105 => v = .string s | 106 => v = .string (s.extract 265 297) | 107 => v = .string us | 108 => v = .string s | 109 => v = .string (s.extract 297 329) | 110 => v = .string gr | 111 => v = .agg #[.int .i64 0, .string pth, .string lk, .int .i64 n1, .int .i64 n2, .int .i64 n3, .int .i64 n5, .string us, .string gr, .string ⟨#[]⟩] | 112 => v = .string s | 113 => v = .string (s.extract 156 157) | 114 => v = .int .i64 n4 | 3 => v = .string (s.extract 156 157) | 4 => v = .int .i64 n4 | 5 => v = .int .i64 0 | _ => True) (U := fun o w' => o.dst = none → w'.heap[w.heap.size]? = some (.cells #[.int .i64 0, .string pth, .string lk, .int .i64 n1, .int .i64 n2, .int .i64 n3, .int .i64 n5, .string us, .string gr, .string ⟨#[]⟩] 23 (0, 0))) (w' := w2) (.string (s.extract 157 257)) ?_ ?_ ?_ ?_ ?_
                          · (clear hV hI hC; go_simp <;> (first | rfl | simp))
                          · exact hC
                          · exact Or.inl rfl
                          · intro d hd; cases hd; rfl
                          · intro h; cases h
                        case o100 =>
                          intro Q a w2 hC hV hI
                          have e99 : a.eval (.tmp 99) = .string (s.extract 157 257) := hV 99 (by simp [Op.operands, Call.operands]) (by kernel_rfl)
                          have f99 : a.tmps.getD 99 undef = .string (s.extract 157 257) := e99
                          have g99 : a.tmps[99]?.getD undef = .string (s.extract 157 257) := by rw [← Array.getD_eq_getD_getElem?]; exact e99
                          refine opU_call (C := fun w' => Below w.heap.size w w' ∧ (w'.heap[w.heap.size]? = some (.cells zEnt 23 (0, 0)) ∨ w'.heap[w.heap.size]? = some (.cells #[.int .i64 0, .string pth, .string lk, .int .i64 n1, .int .i64 n2, .int .i64 n3, .int .i64 n5, .string us, .string gr, .string ⟨#[]⟩] 23 (0, 0)))) (St := fun x y => y.heap[w.heap.size]? = x.heap[w.heap.size]? ∨ y.heap[w.heap.size]? = some (.cells #[.int .i64 0, .string pth, .string lk, .int .i64 n1, .int .i64 n2, .int .i64 n3, .int .i64 n5, .string us, .string gr, .string ⟨#[]⟩] 23 (0, 0))) (V := fun d v _ => match d with | 95 => v = .string s | 96 => v = .string (s.extract 0 100) | 97 => v = .string pth | 98 => v = .string s | 99 => v = .string (s.extract 157 257) | 100 => v = .string lk | 101 => v = .int .i64 n1 | 102 => v = .int .i64 n2 | 103 => v = .int .i64 n3 | 104 => v = .int .i64 n5 | 105 => v = .string s | 106 => v = .string (s.extract 265 297) | 107 => v = .string us | 108 => v = .string s | 109 => v = .string (s.extract 297 329) | 110 => v = .string gr | 111 => v = .agg #[.int .i64 0, .string pth, .string lk, .int .i64 n1, .int .i64 n2, .int .i64 n3, .int .i64 n5, .string us, .string gr, .string ⟨#[]⟩] | 112 => v = .string s | 113 => v = .string (s.extract 156 157) | 114 => v = .int .i64 n4 | 3 => v = .string (s.extract 156 157) | 4 => v = .int .i64 n4 | 5 => v = .int .i64 0 | _ => True) (U := fun o w' => o.dst = none → w'.heap[w.heap.size]? = some (.cells #[.int .i64 0, .string pth, .string lk, .int .i64 n1, .int .i64 n2, .int .i64 n3, .int .i64 n5, .string us, .string gr, .string ⟨#[]⟩] 23 (0, 0))) (f := 49) (args := #[.string (s.extract 157 257)]) (R := fun v y => v = .string lk ∧ Below w2.heap.size w2 y) ?_ ((Qlk.out w2).mono ?_) ?_
                          · (clear hV hI hC; go_simp <;> (first | rfl | simp))
                          · rintro e y ⟨rfl, hb⟩; exact ⟨_, rfl, rfl, hb⟩
                          · rintro v y ⟨rfl, hb⟩; exact ⟨⟨hC.1.trans (hb.mono hC.1.size), hC.2.imp (fun h => (hb.block _ (obj_lt h)).trans h) (fun h => (hb.block _ (obj_lt h)).trans h)⟩, .inl (hb.block _ (hC.2.elim obj_lt obj_lt)), (by intro d hd; cases hd; rfl), fun h => (by cases h)⟩
                        case o101 =>
                          intro Q a w2 hC hV hI
                          have e8 : a.eval (.tmp 8) = .int .i64 n1 := (hI 8 (by simp [Op.operands]) (by kernel_rfl)).trans rfl
                          have f8 : a.tmps.getD 8 undef = .int .i64 n1 := e8
                          have g8 : a.tmps[8]?.getD undef = .int .i64 n1 := by rw [← Array.getD_eq_getD_getElem?]; exact e8
                          refine opU_val (C := fun w' => Below w.heap.size w w' ∧ (w'.heap[w.heap.size]? = some (.cells zEnt 23 (0, 0)) ∨ w'.heap[w.heap.size]? = some (.cells #[.int .i64 0, .string pth, .string lk, .int .i64 n1, .int .i64 n2, .int .i64 n3, .int .i64 n5, .string us, .string gr, .string ⟨#[]⟩] 23 (0, 0)))) (St := fun x y => y.heap[w.heap.size]? = x.heap[w.heap.size]? ∨ y.heap[w.heap.size]? = some (.cells #[.int .i64 0, .string pth, .string lk, .int .i64 n1, .int .i64 n2, .int .i64 n3, .int .i64 n5, .string us, .string gr, .string ⟨#[]⟩] 23 (0, 0))) (V := fun d v _ => match d with | 95 => v = .string s | 96 => v = .string (s.extract 0 100) | 97 => v = .string pth | 98 => v = .string s | 99 => v = .string (s.extract 157 257) | 100 => v = .string lk | 101 => v = .int .i64 n1 | 102 => v = .int .i64 n2 | 103 => v = .int .i64 n3 | 104 => v = .int .i64 n5 | 105 => v = .string s | 106 => v = .string (s.extract 265 297) | 107 => v = .string us | 108 => v = .string s | 109 => v = .string (s.extract 297 329) | 110 => v = .string gr | 111 => v = .agg #[.int .i64 0, .string pth, .string lk, .int .i64 n1, .int .i64 n2, .int .i64 n3, .int .i64 n5, .string us, .string gr, .string ⟨#[]⟩] | 112 => v = .string s | 113 => v = .string (s.extract 156 157) | 114 => v = .int .i64 n4 | 3 => v = .string (s.extract 156 157) | 4 => v = .int .i64 n4 | 5 => v = .int .i64 0 | _ => True) (U := fun o w' => o.dst = none → w'.heap[w.heap.size]? = some (.cells #[.int .i64 0, .string pth, .string lk, .int .i64 n1, .int .i64 n2, .int .i64 n3, .int .i64 n5, .string us, .string gr, .string ⟨#[]⟩] 23 (0, 0))) (w' := w2) (.int .i64 n1) ?_ ?_ ?_ ?_ ?_
                          · (clear hV hI hC; go_simp <;> (first | rfl | simp))
                          · exact hC
                          · exact Or.inl rfl
                          · intro d hd; cases hd; rfl
                          · intro h; cases h
                        case o102 =>
                          intro Q a w2 hC hV hI
                          have e10 : a.eval (.tmp 10) = .int .i64 n2 := (hI 10 (by simp [Op.operands]) (by kernel_rfl)).trans rfl
                          have f10 : a.tmps.getD 10 undef = .int .i64 n2 := e10
                          have g10 : a.tmps[10]?.getD undef = .int .i64 n2 := by rw [← Array.getD_eq_getD_getElem?]; exact e10
                          refine opU_val (C := fun w' => Below w.heap.size w w' ∧ (w'.heap[w.heap.size]? = some (.cells zEnt 23 (0, 0)) ∨ w'.heap[w.heap.size]? = some (.cells #[.int .i64 0, .string pth, .string lk, .int .i64 n1, .int .i64 n2, .int .i64 n3, .int .i64 n5, .string us, .string gr, .string ⟨#[]⟩] 23 (0, 0)))) (St := fun x y => y.heap[w.heap.size]? = x.heap[w.heap.size]? ∨ y.heap[w.heap.size]? = some (.cells #[.int .i64 0, .string pth, .string lk, .int .i64 n1, .int .i64 n2, .int .i64 n3, .int .i64 n5, .string us, .string gr, .string ⟨#[]⟩] 23 (0, 0))) (V := fun d v _ => match d with | 95 => v = .string s | 96 => v = .string (s.extract 0 100) | 97 => v = .string pth | 98 => v = .string s | 99 => v = .string (s.extract 157 257) | 100 => v = .string lk | 101 => v = .int .i64 n1 | 102 => v = .int .i64 n2 | 103 => v = .int .i64 n3 | 104 => v = .int .i64 n5 | 105 => v = .string s | 106 => v = .string (s.extract 265 297) | 107 => v = .string us | 108 => v = .string s | 109 => v = .string (s.extract 297 329) | 110 => v = .string gr | 111 => v = .agg #[.int .i64 0, .string pth, .string lk, .int .i64 n1, .int .i64 n2, .int .i64 n3, .int .i64 n5, .string us, .string gr, .string ⟨#[]⟩] | 112 => v = .string s | 113 => v = .string (s.extract 156 157) | 114 => v = .int .i64 n4 | 3 => v = .string (s.extract 156 157) | 4 => v = .int .i64 n4 | 5 => v = .int .i64 0 | _ => True) (U := fun o w' => o.dst = none → w'.heap[w.heap.size]? = some (.cells #[.int .i64 0, .string pth, .string lk, .int .i64 n1, .int .i64 n2, .int .i64 n3, .int .i64 n5, .string us, .string gr, .string ⟨#[]⟩] 23 (0, 0))) (w' := w2) (.int .i64 n2) ?_ ?_ ?_ ?_ ?_
                          · (clear hV hI hC; go_simp <;> (first | rfl | simp))
                          · exact hC
                          · exact Or.inl rfl
                          · intro d hd; cases hd; rfl
                          · intro h; cases h
                        case o103 =>
                          intro Q a w2 hC hV hI
                          have e12 : a.eval (.tmp 12) = .int .i64 n3 := (hI 12 (by simp [Op.operands]) (by kernel_rfl)).trans rfl
                          have f12 : a.tmps.getD 12 undef = .int .i64 n3 := e12
                          have g12 : a.tmps[12]?.getD undef = .int .i64 n3 := by rw [← Array.getD_eq_getD_getElem?]; exact e12
                          refine opU_val (C := fun w' => Below w.heap.size w w' ∧ (w'.heap[w.heap.size]? = some (.cells zEnt 23 (0, 0)) ∨ w'.heap[w.heap.size]? = some (.cells #[.int .i64 0, .string pth, .string lk, .int .i64 n1, .int .i64 n2, .int .i64 n3, .int .i64 n5, .string us, .string gr, .string ⟨#[]⟩] 23 (0, 0)))) (St := fun x y => y.heap[w.heap.size]? = x.heap[w.heap.size]? ∨ y.heap[w.heap.size]? = some (.cells #[.int .i64 0, .string pth, .string lk, .int .i64 n1, .int .i64 n2, .int .i64 n3, .int .i64 n5, .string us, .string gr, .string ⟨#[]⟩] 23 (0, 0))) (V := fun d v _ => match d with | 95 => v = .string s | 96 => v = .string (s.extract 0 100) | 97 => v = .string pth | 98 => v = .string s | 99 => v = .string (s.extract 157 257) | 100 => v = .string lk | 101 => v = .int .i64 n1 | 102 => v = .int .i64 n2 | 103 => v = .int .i64 n3 | 104 => v = .int .i64 n5 | 105 => v = .string s | 106 => v = .string (s.extract 265 297) | 107 => v = .string us | 108 => v = .string s | 109 => v = .string (s.extract 297 329) | 110 => v = .string gr | 111 => v = .agg #[.int .i64 0, .string pth, .string lk, .int .i64 n1, .int .i64 n2, .int .i64 n3, .int .i64 n5, .string us, .string gr, .string ⟨#[]⟩] | 112 => v = .string s | 113 => v = .string (s.extract 156 157) | 114 => v = .int .i64 n4 | 3 => v = .string (s.extract 156 157) | 4 => v = .int .i64 n4 | 5 => v = .int .i64 0 | _ => True) (U := fun o w' => o.dst = none → w'.heap[w.heap.size]? = some (.cells #[.int .i64 0, .string pth, .string lk, .int .i64 n1, .int .i64 n2, .int .i64 n3, .int .i64 n5, .string us, .string gr, .string ⟨#[]⟩] 23 (0, 0))) (w' := w2) (.int .i64 n3) ?_ ?_ ?_ ?_ ?_
                          · (clear hV hI hC; go_simp <;> (first | rfl | simp))
                          · exact hC
                          · exact Or.inl rfl
                          · intro d hd; cases hd; rfl
                          · intro h; cases h
                        case o104 =>
                          intro Q a w2 hC hV hI
                          have e16 : a.eval (.tmp 16) = .int .i64 n5 := (hI 16 (by simp [Op.operands]) (by kernel_rfl)).trans rfl
                          have f16 : a.tmps.getD 16 undef = .int .i64 n5 := e16
                          have g16 : a.tmps[16]?.getD undef = .int .i64 n5 := by rw [← Array.getD_eq_getD_getElem?]; exact e16
                          refine opU_val (C := fun w' => Below w.heap.size w w' ∧ (w'.heap[w.heap.size]? = some (.cells zEnt 23 (0, 0)) ∨ w'.heap[w.heap.size]? = some (.cells #[.int .i64 0, .string pth, .string lk, .int .i64 n1, .int .i64 n2, .int .i64 n3, .int .i64 n5, .string us, .string gr, .string ⟨#[]⟩] 23 (0, 0)))) (St := fun x y => y.heap[w.heap.size]? = x.heap[w.heap.size]? ∨ y.heap[w.heap.size]? = some (.cells #[.int .i64 0, .string pth, .string lk, .int .i64 n1, .int .i64 n2, .int .i64 n3, .int .i64 n5, .string us, .string gr, .string ⟨#[]⟩] 23 (0, 0))) (V := fun d v _ => match d with | 95 => v = .string s | 96 => v = .string (s.extract 0 100) | 97 => v = .string pth | 98 => v = .string s | 99 => v = .string (s.extract 157 257) | 100 => v = .string lk | 101 => v = .int .i64 n1 | 102 => v = .int .i64 n2 | 103 => v = .int .i64 n3 | 104 => v = .int .i64 n5 | 105 => v = .string s | 106 => v = .string (s.extract 265 297) | 107 => v = .string us | 108 => v = .string s | 109 => v = .string (s.extract 297 329) | 110 => v = .string gr | 111 => v = .agg #[.int .i64 0, .string pth, .string lk, .int .i64 n1, .int .i64 n2, .int .i64 n3, .int .i64 n5, .string us, .string gr, .string ⟨#[]⟩] | 112 => v = .string s | 113 => v = .string (s.extract 156 157) | 114 => v = .int .i64 n4 | 3 => v = .string (s.extract 156 157) | 4 => v = .int .i64 n4 | 5 => v = .int .i64 0 | _ => True) (U := fun o w' => o.dst = none → w'.heap[w.heap.size]? = some (.cells #[.int .i64 0, .string pth, .string lk, .int .i64 n1, .int .i64 n2, .int .i64 n3, .int .i64 n5, .string us, .string gr, .string ⟨#[]⟩] 23 (0, 0))) (w' := w2) (.int .i64 n5) ?_ ?_ ?_ ?_ ?_
                          · (clear hV hI hC; go_simp <;> (first | rfl | simp))
                          · exact hC
                          · exact Or.inl rfl
                          · intro d hd; cases hd; rfl
                          · intro h; cases h
                        case o105 =>
                          intro Q a w2 hC hV hI
                          have e0 : a.eval (.tmp 0) = .string s := (hI 0 (by simp [Op.operands]) (by kernel_rfl)).trans rfl
                          have f0 : a.tmps.getD 0 undef = .string s := e0
                          have g0 : a.tmps[0]?.getD undef = .string s := by rw [← Array.getD_eq_getD_getElem?]; exact e0
                          refine opU_val (C := fun w' => Below w.heap.size w w' ∧ (w'.heap[w.heap.size]? = some (.cells zEnt 23 (0, 0)) ∨ w'.heap[w.heap.size]? = some (.cells #[.int .i64 0, .string pth, .string lk, .int .i64 n1, .int .i64 n2, .int .i64 n3, .int .i64 n5, .string us, .string gr, .string ⟨#[]⟩] 23 (0, 0)))) (St := fun x y => y.heap[w.heap.size]? = x.heap[w.heap.size]? ∨ y.heap[w.heap.size]? = some (.cells #[.int .i64 0, .string pth, .string lk, .int .i64 n1, .int .i64 n2, .int .i64 n3, .int .i64 n5, .string us, .string gr, .string ⟨#[]⟩] 23 (0, 0))) (V := fun d v _ => match d with | 95 => v = .string s | 96 => v = .string (s.extract 0 100) | 97 => v = .string pth | 98 => v = .string s | 99 => v = .string (s.extract 157 257) | 100 => v = .string lk | 101 => v = .int .i64 n1 | 102 => v = .int .i64 n2 | 103 => v = .int .i64 n3 | 104 => v = .int .i64 n5 | 105 => v = .string s | 106 => v = .string (s.extract 265 297) | 107 => v = .string us | 108 => v = .string s | 109 => v = .string (s.extract 297 329) | 110 => v = .string gr | 111 => v = .agg #[.int .i64 0, .string pth, .string lk, .int .i64 n1, .int .i64 n2, .int .i64 n3, .int .i64 n5, .string us, .string gr, .string ⟨#[]⟩] | 112 => v = .string s | 113 => v = .string (s.extract 156 157) | 114 => v = .int .i64 n4 | 3 => v = .string (s.extract 156 157) | 4 => v = .int .i64 n4 | 5 => v = .int .i64 0 | _ => True) (U := fun o w' => o.dst = none → w'.heap[w.heap.size]? = some (.cells #[.int .i64 0, .string pth, .string lk, .int .i64 n1, .int .i64 n2, .int .i64 n3, .int .i64 n5, .string us, .string gr, .string ⟨#[]⟩] 23 (0, 0))) (w' := w2) (.string s) ?_ ?_ ?_ ?_ ?_
                          · (clear hV hI hC; go_simp <;> (first | rfl | simp))
                          · exact hC
                          · exact Or.inl rfl
                          · intro d hd; cases hd; rfl
                          · intro h; cases h
                        case o106 =>
                          intro Q a w2 hC hV hI
                          have e105 : a.eval (.tmp 105) = .string s := hV 105 (by simp [Op.operands]) (by kernel_rfl)
                          have f105 : a.tmps.getD 105 undef = .string s := e105
                          have g105 : a.tmps[105]?.getD undef = .string s := by rw [← Array.getD_eq_getD_getElem?]; exact e105
                          refine opU_val (C := fun w' => Below w.heap.size w w' ∧ (w'.heap[w.heap.size]? = some (.cells zEnt 23 (0, 0)) ∨ w'.heap[w.heap.size]? = some (.cells #[.int .i64 0, .string pth, .string lk, .int .i64 n1, .int .i64 n2, .int .i64 n3, .int .i64 n5, .string us, .string gr, .string ⟨#[]⟩] 23 (0, 0)))) (St := fun x y => y.heap[w.heap.size]? = x.heap[w.heap.size]? ∨ y.heap[w.heap.size]? = some (.cells #[.int .i64 0, .string pth, .string lk, .int .i64 n1, .int .i64 n2, .int .i64 n3, .int .i64 n5, .string us, .string gr, .string ⟨#[]⟩] 23 (0, 0))) (V := fun d v _ => match d with | 95 => v = .string s | 96 => v = .string (s.extract 0 100) | 97 => v = .string pth | 98 => v = .string s | 99 => v = .string (s.extract 157 257) | 100 => v = .string lk | 101 => v = .int .i64 n1 | 102 => v = .int .i64 n2 | 103 => v = .int .i64 n3 | 104 => v = .int .i64 n5 | 105 => v = .string s | 106 => v = .string (s.extract 265 297) | 107 => v = .string us | 108 => v = .string s | 109 => v = .string (s.extract 297 329) | 110 => v = .string gr | 111 => v = .agg #[.int .i64 0, .string pth, .string lk, .int .i64 n1, .int .i64 n2, .int .i64 n3, .int .i64 n5, .string us, .string gr, .string ⟨#[]⟩] | 112 => v = .string s | 113 => v = .string (s.extract 156 157) | 114 => v = .int .i64 n4 | 3 => v = .string (s.extract 156 157) | 4 => v = .int .i64 n4 | 5 => v = .int .i64 0 | _ => True) (U := fun o w' => o.dst = none → w'.heap[w.heap.size]? = some (.cells #[.int .i64 0, .string pth, .string lk, .int .i64 n1, .int .i64 n2, .int .i64 n3, .int .i64 n5, .string us, .string gr, .string ⟨#[]⟩] 23 (0, 0))) (w' := w2) (.string (s.extract 265 297)) ?_ ?_ ?_ ?_ ?_
                          · (clear hV hI hC; go_simp <;> (first | rfl | simp))
                          · exact hC
                          · exact Or.inl rfl
                          · intro d hd; cases hd; rfl
                          · intro h; cases h
                        case o107 =>
                          intro Q a w2 hC hV hI
                          have e106 : a.eval (.tmp 106) = .string (s.extract 265 297) := hV 106 (by simp [Op.operands, Call.operands]) (by kernel_rfl)
                          have f106 : a.tmps.getD 106 undef = .string (s.extract 265 297) := e106
                          have g106 : a.tmps[106]?.getD undef = .string (s.extract 265 297) := by rw [← Array.getD_eq_getD_getElem?]; exact e106
                          refine opU_call (C := fun w' => Below w.heap.size w w' ∧ (w'.heap[w.heap.size]? = some (.cells zEnt 23 (0, 0)) ∨ w'.heap[w.heap.size]? = some (.cells #[.int .i64 0, .string pth, .string lk, .int .i64 n1, .int .i64 n2, .int .i64 n3, .int .i64 n5, .string us, .string gr, .string ⟨#[]⟩] 23 (0, 0)))) (St := fun x y => y.heap[w.heap.size]? = x.heap[w.heap.size]? ∨ y.heap[w.heap.size]? = some (.cells #[.int .i64 0, .string pth, .string lk, .int .i64 n1, .int .i64 n2, .int .i64 n3, .int .i64 n5, .string us, .string gr, .string ⟨#[]⟩] 23 (0, 0))) (V := fun d v _ => match d with | 95 => v = .string s | 96 => v = .string (s.extract 0 100) | 97 => v = .string pth | 98 => v = .string s | 99 => v = .string (s.extract 157 257) | 100 => v = .string lk | 101 => v = .int .i64 n1 | 102 => v = .int .i64 n2 | 103 => v = .int .i64 n3 | 104 => v = .int .i64 n5 | 105 => v = .string s | 106 => v = .string (s.extract 265 297) | 107 => v = .string us | 108 => v = .string s | 109 => v = .string (s.extract 297 329) | 110 => v = .string gr | 111 => v = .agg #[.int .i64 0, .string pth, .string lk, .int .i64 n1, .int .i64 n2, .int .i64 n3, .int .i64 n5, .string us, .string gr, .string ⟨#[]⟩] | 112 => v = .string s | 113 => v = .string (s.extract 156 157) | 114 => v = .int .i64 n4 | 3 => v = .string (s.extract 156 157) | 4 => v = .int .i64 n4 | 5 => v = .int .i64 0 | _ => True) (U := fun o w' => o.dst = none → w'.heap[w.heap.size]? = some (.cells #[.int .i64 0, .string pth, .string lk, .int .i64 n1, .int .i64 n2, .int .i64 n3, .int .i64 n5, .string us, .string gr, .string ⟨#[]⟩] 23 (0, 0))) (f := 49) (args := #[.string (s.extract 265 297)]) (R := fun v y => v = .string us ∧ Below w2.heap.size w2 y) ?_ ((Qus.out w2).mono ?_) ?_
                          · (clear hV hI hC; go_simp <;> (first | rfl | simp))
                          · rintro e y ⟨rfl, hb⟩; exact ⟨_, rfl, rfl, hb⟩
                          · rintro v y ⟨rfl, hb⟩; exact ⟨⟨hC.1.trans (hb.mono hC.1.size), hC.2.imp (fun h => (hb.block _ (obj_lt h)).trans h) (fun h => (hb.block _ (obj_lt h)).trans h)⟩, .inl (hb.block _ (hC.2.elim obj_lt obj_lt)), (by intro d hd; cases hd; rfl), fun h => (by cases h)⟩
                        case o108 =>
                          intro Q a w2 hC hV hI
                          have e0 : a.eval (.tmp 0) = .string s := (hI 0 (by simp [Op.operands]) (by kernel_rfl)).trans rfl
                          have f0 : a.tmps.getD 0 undef = .string s := e0
                          have g0 : a.tmps[0]?.getD undef = .string s := by rw [← Array.getD_eq_getD_getElem?]; exact e0
                          refine opU_val (C := fun w' => Below w.heap.size w w' ∧ (w'.heap[w.heap.size]? = some (.cells zEnt 23 (0, 0)) ∨ w'.heap[w.heap.size]? = some (.cells #[.int .i64 0, .string pth, .string lk, .int .i64 n1, .int .i64 n2, .int .i64 n3, .int .i64 n5, .string us, .string gr, .string ⟨#[]⟩] 23 (0, 0)))) (St := fun x y => y.heap[w.heap.size]? = x.heap[w.heap.size]? ∨ y.heap[w.heap.size]? = some (.cells #[.int .i64 0, .string pth, .string lk, .int .i64 n1, .int .i64 n2, .int .i64 n3, .int .i64 n5, .string us, .string gr, .string ⟨#[]⟩] 23 (0, 0))) (V := fun d v _ => match d with | 95 => v = .string s | 96 => v = .string (s.extract 0 100) | 97 => v = .string pth | 98 => v = .string s | 99 => v = .string (s.extract 157 257) | 100 => v = .string lk | 101 => v = .int .i64 n1 | 102 => v = .int .i64 n2 | 103 => v = .int .i64 n3 | 104 => v = .int .i64 n5 | 105 => v = .string s | 106 => v = .string (s.extract 265 297) | 107 => v = .string us | 108 => v = .string s | 109 => v = .string (s.extract 297 329) | 110 => v = .string gr | 111 => v = .agg #[.int .i64 0, .string pth, .string lk, .int .i64 n1, .int .i64 n2, .int .i64 n3, .int .i64 n5, .string us, .string gr, .string ⟨#[]⟩] | 112 => v = .string s | 113 => v = .string (s.extract 156 157) | 114 => v = .int .i64 n4 | 3 => v = .string (s.extract 156 157) | 4 => v = .int .i64 n4 | 5 => v = .int .i64 0 | _ => True) (U := fun o w' => o.dst = none → w'.heap[w.heap.size]? = some (.cells #[.int .i64 0, .string pth, .string lk, .int .i64 n1, .int .i64 n2, .int .i64 n3, .int .i64 n5, .string us, .string gr, .string ⟨#[]⟩] 23 (0, 0))) (w' := w2) (.string s) ?_ ?_ ?_ ?_ ?_
                          · (clear hV hI hC; go_simp <;> (first | rfl | simp))
                          · exact hC
                          · exact Or.inl rfl
                          · intro d hd; cases hd; rfl
                          · intro h; cases h
                        case o109 =>
                          intro Q a w2 hC hV hI
                          have e108 : a.eval (.tmp 108) = .string s := hV 108 (by simp [Op.operands]) (by kernel_rfl)
                          have f108 : a.tmps.getD 108 undef = .string s := e108
                          have g108 : a.tmps[108]?.getD undef = .string s := by rw [← Array.getD_eq_getD_getElem?]; exact e108
                          refine opU_val (C := fun w' => Below w.heap.size w w' ∧ (w'.heap[w.heap.size]? = some (.cells zEnt 23 (0, 0)) ∨ w'.heap[w.heap.size]? = some (.cells #[.int .i64 0, .string pth, .string lk, .int .i64 n1, .int .i64 n2, .int .i64 n3, .int .i64 n5, .string us, .string gr, .string ⟨#[]⟩] 23 (0, 0)))) (St := fun x y => y.heap[w.heap.size]? = x.heap[w.heap.size]? ∨ y.heap[w.heap.size]? = some (.cells #[.int .i64 0, .string pth, .string lk, .int .i64 n1, .int .i64 n2, .int .i64 n3, .int .i64 n5, .string us, .string gr, .string ⟨#[]⟩] 23 (0, 0))) (V := fun d v _ => match d with | 95 => v = .string s | 96 => v = .string (s.extract 0 100) | 97 => v = .string pth | 98 => v = .string s | 99 => v = .string (s.extract 157 257) | 100 => v = .string lk | 101 => v = .int .i64 n1 | 102 => v = .int .i64 n2 | 103 => v = .int .i64 n3 | 104 => v = .int .i64 n5 | 105 => v = .string s | 106 => v = .string (s.extract 265 297) | 107 => v = .string us | 108 => v = .string s | 109 => v = .string (s.extract 297 329) | 110 => v = .string gr | 111 => v = .agg #[.int .i64 0, .string pth, .string lk, .int .i64 n1, .int .i64 n2, .int .i64 n3, .int .i64 n5, .string us, .string gr, .string ⟨#[]⟩] | 112 => v = .string s | 113 => v = .string (s.extract 156 157) | 114 => v = .int .i64 n4 | 3 => v = .string (s.extract 156 157) | 4 => v = .int .i64 n4 | 5 => v = .int .i64 0 | _ => True) (U := fun o w' => o.dst = none → w'.heap[w.heap.size]? = some (.cells #[.int .i64 0, .string pth, .string lk, .int .i64 n1, .int .i64 n2, .int .i64 n3, .int .i64 n5, .string us, .string gr, .string ⟨#[]⟩] 23 (0, 0))) (w' := w2) (.string (s.extract 297 329)) ?_ ?_ ?_ ?_ ?_
                          · (clear hV hI hC; go_simp <;> (first | rfl | simp))
                          · exact hC
                          · exact Or.inl rfl
                          · intro d hd; cases hd; rfl
                          · intro h; cases h
                        case o110 =>
                          intro Q a w2 hC hV hI
                          have e109 : a.eval (.tmp 109) = .string (s.extract 297 329) := hV 109 (by simp [Op.operands, Call.operands]) (by kernel_rfl)
                          have f109 : a.tmps.getD 109 undef = .string (s.extract 297 329) := e109
                          have g109 : a.tmps[109]?.getD undef = .string (s.extract 297 329) := by rw [← Array.getD_eq_getD_getElem?]; exact e109
                          refine opU_call (C := fun w' => Below w.heap.size w w' ∧ (w'.heap[w.heap.size]? = some (.cells zEnt 23 (0, 0)) ∨ w'.heap[w.heap.size]? = some (.cells #[.int .i64 0, .string pth, .string lk, .int .i64 n1, .int .i64 n2, .int .i64 n3, .int .i64 n5, .string us, .string gr, .string ⟨#[]⟩] 23 (0, 0)))) (St := fun x y => y.heap[w.heap.size]? = x.heap[w.heap.size]? ∨ y.heap[w.heap.size]? = some (.cells #[.int .i64 0, .string pth, .string lk, .int .i64 n1, .int .i64 n2, .int .i64 n3, .int .i64 n5, .string us, .string gr, .string ⟨#[]⟩] 23 (0, 0))) (V := fun d v _ => match d with | 95 => v = .string s | 96 => v = .string (s.extract 0 100) | 97 => v = .string pth | 98 => v = .string s | 99 => v = .string (s.extract 157 257) | 100 => v = .string lk | 101 => v = .int .i64 n1 | 102 => v = .int .i64 n2 | 103 => v = .int .i64 n3 | 104 => v = .int .i64 n5 | 105 => v = .string s | 106 => v = .string (s.extract 265 297) | 107 => v = .string us | 108 => v = .string s | 109 => v = .string (s.extract 297 329) | 110 => v = .string gr | 111 => v = .agg #[.int .i64 0, .string pth, .string lk, .int .i64 n1, .int .i64 n2, .int .i64 n3, .int .i64 n5, .string us, .string gr, .string ⟨#[]⟩] | 112 => v = .string s | 113 => v = .string (s.extract 156 157) | 114 => v = .int .i64 n4 | 3 => v = .string (s.extract 156 157) | 4 => v = .int .i64 n4 | 5 => v = .int .i64 0 | _ => True) (U := fun o w' => o.dst = none → w'.heap[w.heap.size]? = some (.cells #[.int .i64 0, .string pth, .string lk, .int .i64 n1, .int .i64 n2, .int .i64 n3, .int .i64 n5, .string us, .string gr, .string ⟨#[]⟩] 23 (0, 0))) (f := 49) (args := #[.string (s.extract 297 329)]) (R := fun v y => v = .string gr ∧ Below w2.heap.size w2 y) ?_ ((Qgr.out w2).mono ?_) ?_
                          · (clear hV hI hC; go_simp <;> (first | rfl | simp))
                          · rintro e y ⟨rfl, hb⟩; exact ⟨_, rfl, rfl, hb⟩
                          · rintro v y ⟨rfl, hb⟩; exact ⟨⟨hC.1.trans (hb.mono hC.1.size), hC.2.imp (fun h => (hb.block _ (obj_lt h)).trans h) (fun h => (hb.block _ (obj_lt h)).trans h)⟩, .inl (hb.block _ (hC.2.elim obj_lt obj_lt)), (by intro d hd; cases hd; rfl), fun h => (by cases h)⟩
                        case o111 =>
                          intro Q a w2 hC hV hI
                          have e97 : a.eval (.tmp 97) = .string pth := hV 97 (by simp [Op.operands]) (by kernel_rfl)
                          have f97 : a.tmps.getD 97 undef = .string pth := e97
                          have g97 : a.tmps[97]?.getD undef = .string pth := by rw [← Array.getD_eq_getD_getElem?]; exact e97
                          have e100 : a.eval (.tmp 100) = .string lk := hV 100 (by simp [Op.operands]) (by kernel_rfl)
                          have f100 : a.tmps.getD 100 undef = .string lk := e100
                          have g100 : a.tmps[100]?.getD undef = .string lk := by rw [← Array.getD_eq_getD_getElem?]; exact e100
                          have e101 : a.eval (.tmp 101) = .int .i64 n1 := hV 101 (by simp [Op.operands]) (by kernel_rfl)
                          have f101 : a.tmps.getD 101 undef = .int .i64 n1 := e101
                          have g101 : a.tmps[101]?.getD undef = .int .i64 n1 := by rw [← Array.getD_eq_getD_getElem?]; exact e101
                          have e102 : a.eval (.tmp 102) = .int .i64 n2 := hV 102 (by simp [Op.operands]) (by kernel_rfl)
                          have f102 : a.tmps.getD 102 undef = .int .i64 n2 := e102
                          have g102 : a.tmps[102]?.getD undef = .int .i64 n2 := by rw [← Array.getD_eq_getD_getElem?]; exact e102
                          have e103 : a.eval (.tmp 103) = .int .i64 n3 := hV 103 (by simp [Op.operands]) (by kernel_rfl)
                          have f103 : a.tmps.getD 103 undef = .int .i64 n3 := e103
                          have g103 : a.tmps[103]?.getD undef = .int .i64 n3 := by rw [← Array.getD_eq_getD_getElem?]; exact e103
                          have e104 : a.eval (.tmp 104) = .int .i64 n5 := hV 104 (by simp [Op.operands]) (by kernel_rfl)
                          have f104 : a.tmps.getD 104 undef = .int .i64 n5 := e104
                          have g104 : a.tmps[104]?.getD undef = .int .i64 n5 := by rw [← Array.getD_eq_getD_getElem?]; exact e104
                          have e107 : a.eval (.tmp 107) = .string us := hV 107 (by simp [Op.operands]) (by kernel_rfl)
                          have f107 : a.tmps.getD 107 undef = .string us := e107
                          have g107 : a.tmps[107]?.getD undef = .string us := by rw [← Array.getD_eq_getD_getElem?]; exact e107
                          have e110 : a.eval (.tmp 110) = .string gr := hV 110 (by simp [Op.operands]) (by kernel_rfl)
                          have f110 : a.tmps.getD 110 undef = .string gr := e110
                          have g110 : a.tmps[110]?.getD undef = .string gr := by rw [← Array.getD_eq_getD_getElem?]; exact e110
                          refine opU_val (C := fun w' => Below w.heap.size w w' ∧ (w'.heap[w.heap.size]? = some (.cells zEnt 23 (0, 0)) ∨ w'.heap[w.heap.size]? = some (.cells #[.int .i64 0, .string pth, .string lk, .int .i64 n1, .int .i64 n2, .int .i64 n3, .int .i64 n5, .string us, .string gr, .string ⟨#[]⟩] 23 (0, 0)))) (St := fun x y => y.heap[w.heap.size]? = x.heap[w.heap.size]? ∨ y.heap[w.heap.size]? = some (.cells #[.int .i64 0, .string pth, .string lk, .int .i64 n1, .int .i64 n2, .int .i64 n3, .int .i64 n5, .string us, .string gr, .string ⟨#[]⟩] 23 (0, 0))) (V := fun d v _ => match d with | 95 => v = .string s | 96 => v = .string (s.extract 0 100) | 97 => v = .string pth | 98 => v = .string s | 99 => v = .string (s.extract 157 257) | 100 => v = .string lk | 101 => v = .int .i64 n1 | 102 => v = .int .i64 n2 | 103 => v = .int .i64 n3 | 104 => v = .int .i64 n5 | 105 => v = .string s | 106 => v = .string (s.extract 265 297) | 107 => v = .string us | 108 => v = .string s | 109 => v = .string (s.extract 297 329) | 110 => v = .string gr | 111 => v = .agg #[.int .i64 0, .string pth, .string lk, .int .i64 n1, .int .i64 n2, .int .i64 n3, .int .i64 n5, .string us, .string gr, .string ⟨#[]⟩] | 112 => v = .string s | 113 => v = .string (s.extract 156 157) | 114 => v = .int .i64 n4 | 3 => v = .string (s.extract 156 157) | 4 => v = .int .i64 n4 | 5 => v = .int .i64 0 | _ => True) (U := fun o w' => o.dst = none → w'.heap[w.heap.size]? = some (.cells #[.int .i64 0, .string pth, .string lk, .int .i64 n1, .int .i64 n2, .int .i64 n3, .int .i64 n5, .string us, .string gr, .string ⟨#[]⟩] 23 (0, 0))) (w' := w2) (.agg #[.int .i64 0, .string pth, .string lk, .int .i64 n1, .int .i64 n2, .int .i64 n3, .int .i64 n5, .string us, .string gr, .string ⟨#[]⟩]) ?_ ?_ ?_ ?_ ?_
                          · (clear hV hI hC; go_simp <;> (first | rfl | simp))
                          · exact hC
                          · exact Or.inl rfl
                          · intro d hd; cases hd; rfl
                          · intro h; cases h
                        case o112 =>
                          intro Q a w2 hC hV hI
                          have e0 : a.eval (.tmp 0) = .string s := (hI 0 (by simp [Op.operands]) (by kernel_rfl)).trans rfl
                          have f0 : a.tmps.getD 0 undef = .string s := e0
                          have g0 : a.tmps[0]?.getD undef = .string s := by rw [← Array.getD_eq_getD_getElem?]; exact e0
                          refine opU_val (C := fun w' => Below w.heap.size w w' ∧ (w'.heap[w.heap.size]? = some (.cells zEnt 23 (0, 0)) ∨ w'.heap[w.heap.size]? = some (.cells #[.int .i64 0, .string pth, .string lk, .int .i64 n1, .int .i64 n2, .int .i64 n3, .int .i64 n5, .string us, .string gr, .string ⟨#[]⟩] 23 (0, 0)))) (St := fun x y => y.heap[w.heap.size]? = x.heap[w.heap.size]? ∨ y.heap[w.heap.size]? = some (.cells #[.int .i64 0, .string pth, .string lk, .int .i64 n1, .int .i64 n2, .int .i64 n3, .int .i64 n5, .string us, .string gr, .string ⟨#[]⟩] 23 (0, 0))) (V := fun d v _ => match d with | 95 => v = .string s | 96 => v = .string (s.extract 0 100) | 97 => v = .string pth | 98 => v = .string s | 99 => v = .string (s.extract 157 257) | 100 => v = .string lk | 101 => v = .int .i64 n1 | 102 => v = .int .i64 n2 | 103 => v = .int .i64 n3 | 104 => v = .int .i64 n5 | 105 => v = .string s | 106 => v = .string (s.extract 265 297) | 107 => v = .string us | 108 => v = .string s | 109 => v = .string (s.extract 297 329) | 110 => v = .string gr | 111 => v = .agg #[.int .i64 0, .string pth, .string lk, .int .i64 n1, .int .i64 n2, .int .i64 n3, .int .i64 n5, .string us, .string gr, .string ⟨#[]⟩] | 112 => v = .string s | 113 => v = .string (s.extract 156 157) | 114 => v = .int .i64 n4 | 3 => v = .string (s.extract 156 157) | 4 => v = .int .i64 n4 | 5 => v = .int .i64 0 | _ => True) (U := fun o w' => o.dst = none → w'.heap[w.heap.size]? = some (.cells #[.int .i64 0, .string pth, .string lk, .int .i64 n1, .int .i64 n2, .int .i64 n3, .int .i64 n5, .string us, .string gr, .string ⟨#[]⟩] 23 (0, 0))) (w' := w2) (.string s) ?_ ?_ ?_ ?_ ?_
                          · (clear hV hI hC; go_simp <;> (first | rfl | simp))
                          · exact hC
                          · exact Or.inl rfl
                          · intro d hd; cases hd; rfl
                          · intro h; cases h
                        case o113 =>
                          intro Q a w2 hC hV hI
                          have e112 : a.eval (.tmp 112) = .string s := hV 112 (by simp [Op.operands]) (by kernel_rfl)
                          have f112 : a.tmps.getD 112 undef = .string s := e112
                          have g112 : a.tmps[112]?.getD undef = .string s := by rw [← Array.getD_eq_getD_getElem?]; exact e112
                          refine opU_val (C := fun w' => Below w.heap.size w w' ∧ (w'.heap[w.heap.size]? = some (.cells zEnt 23 (0, 0)) ∨ w'.heap[w.heap.size]? = some (.cells #[.int .i64 0, .string pth, .string lk, .int .i64 n1, .int .i64 n2, .int .i64 n3, .int .i64 n5, .string us, .string gr, .string ⟨#[]⟩] 23 (0, 0)))) (St := fun x y => y.heap[w.heap.size]? = x.heap[w.heap.size]? ∨ y.heap[w.heap.size]? = some (.cells #[.int .i64 0, .string pth, .string lk, .int .i64 n1, .int .i64 n2, .int .i64 n3, .int .i64 n5, .string us, .string gr, .string ⟨#[]⟩] 23 (0, 0))) (V := fun d v _ => match d with | 95 => v = .string s | 96 => v = .string (s.extract 0 100) | 97 => v = .string pth | 98 => v = .string s | 99 => v = .string (s.extract 157 257) | 100 => v = .string lk | 101 => v = .int .i64 n1 | 102 => v = .int .i64 n2 | 103 => v = .int .i64 n3 | 104 => v = .int .i64 n5 | 105 => v = .string s | 106 => v = .string (s.extract 265 297) | 107 => v = .string us | 108 => v = .string s | 109 => v = .string (s.extract 297 329) | 110 => v = .string gr | 111 => v = .agg #[.int .i64 0, .string pth, .string lk, .int .i64 n1, .int .i64 n2, .int .i64 n3, .int .i64 n5, .string us, .string gr, .string ⟨#[]⟩] | 112 => v = .string s | 113 => v = .string (s.extract 156 157) | 114 => v = .int .i64 n4 | 3 => v = .string (s.extract 156 157) | 4 => v = .int .i64 n4 | 5 => v = .int .i64 0 | _ => True) (U := fun o w' => o.dst = none → w'.heap[w.heap.size]? = some (.cells #[.int .i64 0, .string pth, .string lk, .int .i64 n1, .int .i64 n2, .int .i64 n3, .int .i64 n5, .string us, .string gr, .string ⟨#[]⟩] 23 (0, 0))) (w' := w2) (.string (s.extract 156 157)) ?_ ?_ ?_ ?_ ?_
                          · (clear hV hI hC; go_simp <;> (first | rfl | simp))
                          · exact hC
                          · exact Or.inl rfl
                          · intro d hd; cases hd; rfl
                          · intro h; cases h
                        case o114 =>
                          intro Q a w2 hC hV hI
                          have e14 : a.eval (.tmp 14) = .int .i64 n4 := (hI 14 (by simp [Op.operands]) (by kernel_rfl)).trans rfl
                          have f14 : a.tmps.getD 14 undef = .int .i64 n4 := e14
                          have g14 : a.tmps[14]?.getD undef = .int .i64 n4 := by rw [← Array.getD_eq_getD_getElem?]; exact e14
                          refine opU_val (C := fun w' => Below w.heap.size w w' ∧ (w'.heap[w.heap.size]? = some (.cells zEnt 23 (0, 0)) ∨ w'.heap[w.heap.size]? = some (.cells #[.int .i64 0, .string pth, .string lk, .int .i64 n1, .int .i64 n2, .int .i64 n3, .int .i64 n5, .string us, .string gr, .string ⟨#[]⟩] 23 (0, 0)))) (St := fun x y => y.heap[w.heap.size]? = x.heap[w.heap.size]? ∨ y.heap[w.heap.size]? = some (.cells #[.int .i64 0, .string pth, .string lk, .int .i64 n1, .int .i64 n2, .int .i64 n3, .int .i64 n5, .string us, .string gr, .string ⟨#[]⟩] 23 (0, 0))) (V := fun d v _ => match d with | 95 => v = .string s | 96 => v = .string (s.extract 0 100) | 97 => v = .string pth | 98 => v = .string s | 99 => v = .string (s.extract 157 257) | 100 => v = .string lk | 101 => v = .int .i64 n1 | 102 => v = .int .i64 n2 | 103 => v = .int .i64 n3 | 104 => v = .int .i64 n5 | 105 => v = .string s | 106 => v = .string (s.extract 265 297) | 107 => v = .string us | 108 => v = .string s | 109 => v = .string (s.extract 297 329) | 110 => v = .string gr | 111 => v = .agg #[.int .i64 0, .string pth, .string lk, .int .i64 n1, .int .i64 n2, .int .i64 n3, .int .i64 n5, .string us, .string gr, .string ⟨#[]⟩] | 112 => v = .string s | 113 => v = .string (s.extract 156 157) | 114 => v = .int .i64 n4 | 3 => v = .string (s.extract 156 157) | 4 => v = .int .i64 n4 | 5 => v = .int .i64 0 | _ => True) (U := fun o w' => o.dst = none → w'.heap[w.heap.size]? = some (.cells #[.int .i64 0, .string pth, .string lk, .int .i64 n1, .int .i64 n2, .int .i64 n3, .int .i64 n5, .string us, .string gr, .string ⟨#[]⟩] 23 (0, 0))) (w' := w2) (.int .i64 n4) ?_ ?_ ?_ ?_ ?_
                          · (clear hV hI hC; go_simp <;> (first | rfl | simp))
                          · exact hC
                          · exact Or.inl rfl
                          · intro d hd; cases hd; rfl
                          · intro h; cases h
                        case os20 =>
                          intro Q a w2 hC hV hI
                          have e2 : a.eval (.tmp 2) = .pointer (some ⟨w.heap.size, 0, none⟩) := (hI 2 (by simp [Op.operands]) (by kernel_rfl)).trans rfl
                          have f2 : a.tmps.getD 2 undef = .pointer (some ⟨w.heap.size, 0, none⟩) := e2
                          have g2 : a.tmps[2]?.getD undef = .pointer (some ⟨w.heap.size, 0, none⟩) := by rw [← Array.getD_eq_getD_getElem?]; exact e2
                          have e111 : a.eval (.tmp 111) = .agg #[.int .i64 0, .string pth, .string lk, .int .i64 n1, .int .i64 n2, .int .i64 n3, .int .i64 n5, .string us, .string gr, .string ⟨#[]⟩] := hV 111 (by simp [Op.operands]) (by kernel_rfl)
                          have f111 : a.tmps.getD 111 undef = .agg #[.int .i64 0, .string pth, .string lk, .int .i64 n1, .int .i64 n2, .int .i64 n3, .int .i64 n5, .string us, .string gr, .string ⟨#[]⟩] := e111
                          have g111 : a.tmps[111]?.getD undef = .agg #[.int .i64 0, .string pth, .string lk, .int .i64 n1, .int .i64 n2, .int .i64 n3, .int .i64 n5, .string us, .string gr, .string ⟨#[]⟩] := by rw [← Array.getD_eq_getD_getElem?]; exact e111
                          have hS : ∀ cs : Array Value, cs.size = 10 → w2.heap[w.heap.size]? = some (.cells cs 23 (0, 0)) → _ := fun cs hc hR => run_storeVar_row (P := Tryz.prog) w2 w.heap.size 23 23 cs #[.int .i64 0, .string pth, .string lk, .int .i64 n1, .int .i64 n2, .int .i64 n3, .int .i64 n5, .string us, .string gr, .string ⟨#[]⟩] hR (by rw [Tryz.sizeEnt]; rfl) hc (by simp [Value.oneCell'])
                          have hR2 : (w2.setRow w.heap.size #[.int .i64 0, .string pth, .string lk, .int .i64 n1, .int .i64 n2, .int .i64 n3, .int .i64 n5, .string us, .string gr, .string ⟨#[]⟩]).heap[w.heap.size]? = some (.cells #[.int .i64 0, .string pth, .string lk, .int .i64 n1, .int .i64 n2, .int .i64 n3, .int .i64 n5, .string us, .string gr, .string ⟨#[]⟩] 23 (0, 0)) := hC.2.elim (fun h => setRow_heap _ _ _ _ _ _ h) (fun h => setRow_heap _ _ _ _ _ _ h)
                          refine opU_store (C := fun w' => Below w.heap.size w w' ∧ (w'.heap[w.heap.size]? = some (.cells zEnt 23 (0, 0)) ∨ w'.heap[w.heap.size]? = some (.cells #[.int .i64 0, .string pth, .string lk, .int .i64 n1, .int .i64 n2, .int .i64 n3, .int .i64 n5, .string us, .string gr, .string ⟨#[]⟩] 23 (0, 0)))) (St := fun x y => y.heap[w.heap.size]? = x.heap[w.heap.size]? ∨ y.heap[w.heap.size]? = some (.cells #[.int .i64 0, .string pth, .string lk, .int .i64 n1, .int .i64 n2, .int .i64 n3, .int .i64 n5, .string us, .string gr, .string ⟨#[]⟩] 23 (0, 0))) (V := fun d v _ => match d with | 95 => v = .string s | 96 => v = .string (s.extract 0 100) | 97 => v = .string pth | 98 => v = .string s | 99 => v = .string (s.extract 157 257) | 100 => v = .string lk | 101 => v = .int .i64 n1 | 102 => v = .int .i64 n2 | 103 => v = .int .i64 n3 | 104 => v = .int .i64 n5 | 105 => v = .string s | 106 => v = .string (s.extract 265 297) | 107 => v = .string us | 108 => v = .string s | 109 => v = .string (s.extract 297 329) | 110 => v = .string gr | 111 => v = .agg #[.int .i64 0, .string pth, .string lk, .int .i64 n1, .int .i64 n2, .int .i64 n3, .int .i64 n5, .string us, .string gr, .string ⟨#[]⟩] | 112 => v = .string s | 113 => v = .string (s.extract 156 157) | 114 => v = .int .i64 n4 | 3 => v = .string (s.extract 156 157) | 4 => v = .int .i64 n4 | 5 => v = .int .i64 0 | _ => True) (U := fun o w' => o.dst = none → w'.heap[w.heap.size]? = some (.cells #[.int .i64 0, .string pth, .string lk, .int .i64 n1, .int .i64 n2, .int .i64 n3, .int .i64 n5, .string us, .string gr, .string ⟨#[]⟩] 23 (0, 0))) 23 _ _ rfl rfl ⟨w.heap.size, 0, none⟩ e2 e111 (hC.2.elim (fun h => hS _ rfl h) (fun h => hS _ rfl h)) ?_ ?_ ?_
                          · exact ⟨hC.1.trans (below_set (Nat.le_refl _) _), Or.inr hR2⟩
                          · exact Or.inr hR2
                          · intro _; exact hR2
                        case o3 =>
                          intro Q a w2 hC hV hI
                          have e113 : a.eval (.tmp 113) = .string (s.extract 156 157) := hV 113 (by simp [Op.operands]) (by kernel_rfl)
                          have f113 : a.tmps.getD 113 undef = .string (s.extract 156 157) := e113
                          have g113 : a.tmps[113]?.getD undef = .string (s.extract 156 157) := by rw [← Array.getD_eq_getD_getElem?]; exact e113
                          refine opU_val (C := fun w' => Below w.heap.size w w' ∧ (w'.heap[w.heap.size]? = some (.cells zEnt 23 (0, 0)) ∨ w'.heap[w.heap.size]? = some (.cells #[.int .i64 0, .string pth, .string lk, .int .i64 n1, .int .i64 n2, .int .i64 n3, .int .i64 n5, .string us, .string gr, .string ⟨#[]⟩] 23 (0, 0)))) (St := fun x y => y.heap[w.heap.size]? = x.heap[w.heap.size]? ∨ y.heap[w.heap.size]? = some (.cells #[.int .i64 0, .string pth, .string lk, .int .i64 n1, .int .i64 n2, .int .i64 n3, .int .i64 n5, .string us, .string gr, .string ⟨#[]⟩] 23 (0, 0))) (V := fun d v _ => match d with | 95 => v = .string s | 96 => v = .string (s.extract 0 100) | 97 => v = .string pth | 98 => v = .string s | 99 => v = .string (s.extract 157 257) | 100 => v = .string lk | 101 => v = .int .i64 n1 | 102 => v = .int .i64 n2 | 103 => v = .int .i64 n3 | 104 => v = .int .i64 n5 | 105 => v = .string s | 106 => v = .string (s.extract 265 297) | 107 => v = .string us | 108 => v = .string s | 109 => v = .string (s.extract 297 329) | 110 => v = .string gr | 111 => v = .agg #[.int .i64 0, .string pth, .string lk, .int .i64 n1, .int .i64 n2, .int .i64 n3, .int .i64 n5, .string us, .string gr, .string ⟨#[]⟩] | 112 => v = .string s | 113 => v = .string (s.extract 156 157) | 114 => v = .int .i64 n4 | 3 => v = .string (s.extract 156 157) | 4 => v = .int .i64 n4 | 5 => v = .int .i64 0 | _ => True) (U := fun o w' => o.dst = none → w'.heap[w.heap.size]? = some (.cells #[.int .i64 0, .string pth, .string lk, .int .i64 n1, .int .i64 n2, .int .i64 n3, .int .i64 n5, .string us, .string gr, .string ⟨#[]⟩] 23 (0, 0))) (w' := w2) (.string (s.extract 156 157)) ?_ ?_ ?_ ?_ ?_
                          · (clear hV hI hC; go_simp <;> (first | rfl | simp))
                          · exact hC
                          · exact Or.inl rfl
                          · intro d hd; cases hd; rfl
                          · intro h; cases h
                        case o4 =>
                          intro Q a w2 hC hV hI
                          have e114 : a.eval (.tmp 114) = .int .i64 n4 := hV 114 (by simp [Op.operands]) (by kernel_rfl)
                          have f114 : a.tmps.getD 114 undef = .int .i64 n4 := e114
                          have g114 : a.tmps[114]?.getD undef = .int .i64 n4 := by rw [← Array.getD_eq_getD_getElem?]; exact e114
                          refine opU_val (C := fun w' => Below w.heap.size w w' ∧ (w'.heap[w.heap.size]? = some (.cells zEnt 23 (0, 0)) ∨ w'.heap[w.heap.size]? = some (.cells #[.int .i64 0, .string pth, .string lk, .int .i64 n1, .int .i64 n2, .int .i64 n3, .int .i64 n5, .string us, .string gr, .string ⟨#[]⟩] 23 (0, 0)))) (St := fun x y => y.heap[w.heap.size]? = x.heap[w.heap.size]? ∨ y.heap[w.heap.size]? = some (.cells #[.int .i64 0, .string pth, .string lk, .int .i64 n1, .int .i64 n2, .int .i64 n3, .int .i64 n5, .string us, .string gr, .string ⟨#[]⟩] 23 (0, 0))) (V := fun d v _ => match d with | 95 => v = .string s | 96 => v = .string (s.extract 0 100) | 97 => v = .string pth | 98 => v = .string s | 99 => v = .string (s.extract 157 257) | 100 => v = .string lk | 101 => v = .int .i64 n1 | 102 => v = .int .i64 n2 | 103 => v = .int .i64 n3 | 104 => v = .int .i64 n5 | 105 => v = .string s | 106 => v = .string (s.extract 265 297) | 107 => v = .string us | 108 => v = .string s | 109 => v = .string (s.extract 297 329) | 110 => v = .string gr | 111 => v = .agg #[.int .i64 0, .string pth, .string lk, .int .i64 n1, .int .i64 n2, .int .i64 n3, .int .i64 n5, .string us, .string gr, .string ⟨#[]⟩] | 112 => v = .string s | 113 => v = .string (s.extract 156 157) | 114 => v = .int .i64 n4 | 3 => v = .string (s.extract 156 157) | 4 => v = .int .i64 n4 | 5 => v = .int .i64 0 | _ => True) (U := fun o w' => o.dst = none → w'.heap[w.heap.size]? = some (.cells #[.int .i64 0, .string pth, .string lk, .int .i64 n1, .int .i64 n2, .int .i64 n3, .int .i64 n5, .string us, .string gr, .string ⟨#[]⟩] 23 (0, 0))) (w' := w2) (.int .i64 n4) ?_ ?_ ?_ ?_ ?_
                          · (clear hV hI hC; go_simp <;> (first | rfl | simp))
                          · exact hC
                          · exact Or.inl rfl
                          · intro d hd; cases hd; rfl
                          · intro h; cases h
                        case o5 =>
                          intro Q a w2 hC hV hI
                          refine opU_val (C := fun w' => Below w.heap.size w w' ∧ (w'.heap[w.heap.size]? = some (.cells zEnt 23 (0, 0)) ∨ w'.heap[w.heap.size]? = some (.cells #[.int .i64 0, .string pth, .string lk, .int .i64 n1, .int .i64 n2, .int .i64 n3, .int .i64 n5, .string us, .string gr, .string ⟨#[]⟩] 23 (0, 0)))) (St := fun x y => y.heap[w.heap.size]? = x.heap[w.heap.size]? ∨ y.heap[w.heap.size]? = some (.cells #[.int .i64 0, .string pth, .string lk, .int .i64 n1, .int .i64 n2, .int .i64 n3, .int .i64 n5, .string us, .string gr, .string ⟨#[]⟩] 23 (0, 0))) (V := fun d v _ => match d with | 95 => v = .string s | 96 => v = .string (s.extract 0 100) | 97 => v = .string pth | 98 => v = .string s | 99 => v = .string (s.extract 157 257) | 100 => v = .string lk | 101 => v = .int .i64 n1 | 102 => v = .int .i64 n2 | 103 => v = .int .i64 n3 | 104 => v = .int .i64 n5 | 105 => v = .string s | 106 => v = .string (s.extract 265 297) | 107 => v = .string us | 108 => v = .string s | 109 => v = .string (s.extract 297 329) | 110 => v = .string gr | 111 => v = .agg #[.int .i64 0, .string pth, .string lk, .int .i64 n1, .int .i64 n2, .int .i64 n3, .int .i64 n5, .string us, .string gr, .string ⟨#[]⟩] | 112 => v = .string s | 113 => v = .string (s.extract 156 157) | 114 => v = .int .i64 n4 | 3 => v = .string (s.extract 156 157) | 4 => v = .int .i64 n4 | 5 => v = .int .i64 0 | _ => True) (U := fun o w' => o.dst = none → w'.heap[w.heap.size]? = some (.cells #[.int .i64 0, .string pth, .string lk, .int .i64 n1, .int .i64 n2, .int .i64 n3, .int .i64 n5, .string us, .string gr, .string ⟨#[]⟩] 23 (0, 0))) (w' := w2) (.int .i64 0) ?_ ?_ ?_ ?_ ?_
                          · (clear hV hI hC; go_simp <;> (first | rfl | simp))
                          · exact hC
                          · exact Or.inl rfl
                          · intro d hd; cases hd; rfl
                          · intro h; cases h
                      case hend =>
                        intro f w7 hC hall huall
                        simp only [List.forall_mem_cons] at hall
                        obtain ⟨h95, h96, h97, h98, h99, h100, h101, h102, h103, h104, h105, h106, h107, h108, h109, h110, h111, h112, h113, h114, _, h3, h4, h5, _⟩ := hall
                        simp only [List.forall_mem_cons] at huall
                        obtain ⟨_, _, _, _, _, _, _, _, _, _, _, _, _, _, _, _, _, _, _, _, hus, _, _, _, _⟩ := huall
                        replace h95 : f 95 = .string s := h95 95 rfl
                        replace h96 : f 96 = .string (s.extract 0 100) := h96 96 rfl
                        replace h97 : f 97 = .string pth := h97 97 rfl
                        replace h98 : f 98 = .string s := h98 98 rfl
                        replace h99 : f 99 = .string (s.extract 157 257) := h99 99 rfl
                        replace h100 : f 100 = .string lk := h100 100 rfl
                        replace h101 : f 101 = .int .i64 n1 := h101 101 rfl
                        replace h102 : f 102 = .int .i64 n2 := h102 102 rfl
                        replace h103 : f 103 = .int .i64 n3 := h103 103 rfl
                        replace h104 : f 104 = .int .i64 n5 := h104 104 rfl
                        replace h105 : f 105 = .string s := h105 105 rfl
                        replace h106 : f 106 = .string (s.extract 265 297) := h106 106 rfl
                        replace h107 : f 107 = .string us := h107 107 rfl
                        replace h108 : f 108 = .string s := h108 108 rfl
                        replace h109 : f 109 = .string (s.extract 297 329) := h109 109 rfl
                        replace h110 : f 110 = .string gr := h110 110 rfl
                        replace h111 : f 111 = .agg #[.int .i64 0, .string pth, .string lk, .int .i64 n1, .int .i64 n2, .int .i64 n3, .int .i64 n5, .string us, .string gr, .string ⟨#[]⟩] := h111 111 rfl
                        replace h112 : f 112 = .string s := h112 112 rfl
                        replace h113 : f 113 = .string (s.extract 156 157) := h113 113 rfl
                        replace h114 : f 114 = .int .i64 n4 := h114 114 rfl
                        replace h3 : f 3 = .string (s.extract 156 157) := h3 3 rfl
                        replace h4 : f 4 = .int .i64 n4 := h4 4 rfl
                        replace h5 : f 5 = .int .i64 0 := h5 5 rfl
                        simp only [putAll, Act.put, List.setIfInBounds_toArray, List.set_cons_succ, List.set_cons_zero, h95, h96, h97, h98, h99, h100, h101, h102, h103, h104, h105, h106, h107, h108, h109, h110, h111, h112, h113, h114, h3, h4, h5]
                        clear h95 h96 h97 h98 h99 h100 h101 h102 h103 h104 h105 h106 h107 h108 h109 h110 h111 h112 h113 h114 h3 h4 h5
                        have R5 := Lib.hid (hus trivial)
                        have B5 := Lib.hid hC.1
                        clear hC hus
                        go_wp2
                        refine bodyPost_ret (results_cell4 rfl _ _ w.heap.size _ #[.int .i64 0, .string pth, .string lk, .int .i64 n1, .int .i64 n2, .int .i64 n3, .int .i64 n5, .string us, .string gr, .string ⟨#[]⟩] (0, 0) _ rfl R5.out Tryz.underlying23 rfl (by rw [Tryz.sizeEnt]; rfl)) rfl ?_
                        rw [HE.out]
                        exact ⟨rfl, B5.out⟩
                    · have HE := Lib.hid (HBad.out (by rw [HOK.out]; simp [h3000]))
                      clear HOK HG HBad
                      go_wp2_with ((with_reducible refine wpList_store_eq rfl 23 _ _ rfl ⟨w.heap.size, 0, none⟩ ?_ ?_ HSt.out ?_); rfl; rfl)
                      refine bodyPost_ret (results_cell4 rfl _ _ w.heap.size _ zEnt (0, 0) _ rfl (setRow_heap _ _ _ _ _ _ RO1.out) Tryz.underlying23 rfl (by rw [Tryz.sizeEnt]; rfl)) rfl ?_
                      rw [HE.out]
                      exact ⟨rfl, BW1.out.trans (below_set (Nat.le_refl _) _)⟩
        · have HE := Lib.hid (readLS_bad (s := s) (c := 2) (HR2.out (by cases h : sumOkv s with | false => rfl | true => exact absurd (HQ.out.1 h).2.2 h3)) (by omega))
          have q3 : (n6 != headSumv s) = true := by simp [h3]
          clear HQ HR2 HR3 HR0 h2 h3
          generalize headSumv s = hsv at *
          go_enter Tryz.func27, Tryz.ntmps27
          go_wp2_with fail
          refine (H1.out _).mono ?_
          rintro e w1 ⟨rfl, rfl⟩
          go_wp2_with fail
          refine (H2.out _).mono ?_
          rintro e w1 ⟨rfl, hb⟩
          obtain ⟨R1, B1⟩ := BAD.out w1 hb
          have HSt := Lib.hid (run_storeVar_row (P := Tryz.prog) w1 w.heap.size 23 23 zEnt zEnt R1 (by rw [Tryz.sizeEnt]; rfl) rfl (by simp [zEnt, Value.oneCell']))
          clear hb
          go_wp2_with ((with_reducible refine wpList_store_eq rfl 23 _ _ rfl ⟨w.heap.size, 0, none⟩ ?_ ?_ HSt.out ?_); rfl; rfl)
          refine bodyPost_ret (results_cell4 rfl _ _ w.heap.size _ zEnt (0, 0) _ rfl (setRow_heap _ _ _ _ _ _ R1) Tryz.underlying23 rfl (by rw [Tryz.sizeEnt]; rfl)) rfl ?_
          rw [HE.out]
          exact ⟨rfl, B1.trans (below_set (Nat.le_refl _) _)⟩
      · have HE := Lib.hid (readLS_bad (s := s) (c := 2) (HR2.out (by cases h : sumOkv s with | false => rfl | true => exact absurd (HQ.out.1 h).2.1 h2)) (by omega))
        have q2 := lit_ne (s := s.extract 154 156) (l := [0, 32]) h2
        clear HQ HR2 HR3 HR0 h2
        go_enter Tryz.func27, Tryz.ntmps27
        go_wp2_with fail
        refine (H1.out _).mono ?_
        rintro e w1 ⟨rfl, rfl⟩
        go_wp2_with ((with_reducible refine wpList_store_eq rfl 23 _ _ rfl ⟨w.heap.size, 0, none⟩ ?_ ?_ HSt0.out ?_); rfl; rfl)
        refine bodyPost_ret (results_cell4 rfl _ _ w.heap.size _ zEnt (0, 0) _ rfl R0.out Tryz.underlying23 rfl (by rw [Tryz.sizeEnt]; rfl)) rfl ?_
        rw [HE.out]
        exact ⟨rfl, B0.out⟩
end Go.Proofs.YtgpgkgahbkmdiabGreatDoor

/- Contract of impl.GetLong. -/
namespace Go.Proofs.YtgpgkgahbkmdiabGreatDoor
open Go.ChangeShapes Go.WideShapes Go.ChangeAt Go.RowKit

/-- The code of a header with long names. -/
def hdcL (s : ByteArray) : Int := if s.size < 512 then 1 else if sumOkv s = false then 2 else if headOkG (lokv (lOf s)) (lvalv (lOf s)) = false then 3 else if hdL (lOf s) = ⟨(lOf s).toArray⟩ then 0 else 4
theorem readLV_code (s : ByteArray) : (hdcL s = 0 ∧ readLongV s = .tuple #[.agg (okCellsG (lOf s) (lvalv (lOf s))), .nilIface]) ∨ (¬ hdcL s = 0 ∧ readLongV s = badHd (hdcL s)) := by
  unfold hdcL readLongV readVG
  split
  · exact .inr ⟨by omega, rfl⟩
  · split
    · exact .inr ⟨by omega, rfl⟩
    · split
      · exact .inr ⟨by omega, rfl⟩
      · split
        · exact .inl ⟨rfl, rfl⟩
        · exact .inr ⟨by omega, rfl⟩
def getLV (s : ByteArray) : Value := if hdcL s = 0 then .tuple #[.agg (entVG (lOf s) (lvalv (lOf s))).cells.toArray, .string (fW (lOf s) 7), .int .i64 (lvalv (lOf s) 4), .int .i64 0] else .tuple #[.agg zEnt, .string ⟨#[]⟩, .int .i64 0, .int .i64 (hdcL s)]
set_option maxHeartbeats 6400000 in
set_option maxRecDepth 8000 in
theorem getLong_bad (s : ByteArray) (w : World) (hs : s.size ≤ 1048576) (hc : ¬ hdcL s = 0) (hT : Tabs w) (hF : FW w) (hH : Handle w) :
    Calls Tryz.prog 12 #[.string s] w fun e w' => e = .returned (getLV s) ∧ Below w.heap.size w w' := by
  have H1 := Lib.hid (fun w hT hF => readLong_any s w hs hT hF)
  rw [((readLV_code s).resolve_left (fun h => hc h.1)).2, badHd] at H1
  have HE : Hid (getLV s = .tuple #[.agg zEnt, .string ⟨#[]⟩, .int .i64 0, .int .i64 (hdcL s)]) := Lib.hid (by rw [getLV, if_neg hc])
  have HCo := Lib.hid (fun w h => codeOf_err (hdcL s) w h)
  generalize hdcL s = cd at *
  clear hc
  have B0 := Lib.hid ((Below.refl w.heap.size w).alloc (Nat.le_refl _) (.cells zEnt 23))
  have R0 : Hid ((w.alloc (.cells zEnt 23)).heap[w.heap.size]? = some (.cells zEnt 23 (0, 0))) := Lib.hid (heap_alloc_last _ _)
  have HT0 := Lib.hid (hT.below B0.out)
  have HF0 := Lib.hid (hF.below B0.out)
  have HH := Lib.hid hH
  clear hT hF hH
  go_enter Tryz.func12, Tryz.ntmps12
  go_wp2_with fail
  refine (H1.out _ HT0.out HF0.out).mono ?_
  rintro e w1 ⟨rfl, hb1⟩
  have RO1 := Lib.hid ((hb1.block w.heap.size (by simp)).trans R0.out)
  have B1 := Lib.hid (B0.out.trans (hb1.mono (by simp)))
  clear hb1 R0 B0 H1 HT0 HF0
  have zR1 := obj_lt RO1.out
  have HSn := Lib.hid (run_storeVar_new (P := Tryz.prog) w1 37 zHead zHead (by rw [Tryz.sizeHd]; rfl) rfl (by simp [zHead, Value.oneCell']))
  go_wp2_with ((with_reducible refine wpList_store_eq rfl 37 _ _ rfl ⟨w1.heap.size, 0, none⟩ ?_ ?_ HSn.out ?_); rfl; rfl)
  have OB := heap_alloc_last w1 (.cells zHead 37)
  have BX := (Below.refl w1.heap.size w1).alloc (Nat.le_refl _) (.cells zHead 37)
  generalize w1.alloc (.cells zHead 37) = w4 at *
  have OB' := Lib.hid OB
  have RO4 := Lib.hid ((BX.block _ (obj_lt RO1.out)).trans RO1.out)
  have B4 := Lib.hid (B1.out.trans (BX.mono B1.out.size))
  clear OB BX RO1 B1 HSn
  have zR4 := obj_lt RO4.out
  have KC : Hid (∀ w' : World, w'.heap[w1.heap.size]? = some (.cells zHead 37 (0, 0)) → w'.cell? ⟨w1.heap.size, 0, none⟩ = some (.int .i64 0) ∧ w'.cell? ⟨w1.heap.size, 1, none⟩ = some (.string ⟨#[]⟩) ∧ w'.cell? ⟨w1.heap.size, 2, none⟩ = some (.string ⟨#[]⟩) ∧ w'.cell? ⟨w1.heap.size, 3, none⟩ = some (.int .i64 0) ∧ w'.cell? ⟨w1.heap.size, 4, none⟩ = some (.int .i64 0) ∧ w'.cell? ⟨w1.heap.size, 5, none⟩ = some (.int .i64 0) ∧ w'.cell? ⟨w1.heap.size, 6, none⟩ = some (.int .i64 0) ∧ w'.cell? ⟨w1.heap.size, 7, none⟩ = some (.string ⟨#[]⟩) ∧ w'.cell? ⟨w1.heap.size, 8, none⟩ = some (.string ⟨#[]⟩) ∧ w'.cell? ⟨w1.heap.size, 9, none⟩ = some (.string ⟨#[]⟩) ∧ w'.cell? ⟨w1.heap.size, 10, none⟩ = some (.string ⟨#[]⟩) ∧ w'.cell? ⟨w1.heap.size, 11, none⟩ = some (.int .i64 0)) := Lib.hid (fun w' h1 => by
    refine ⟨?_, ?_, ?_, ?_, ?_, ?_, ?_, ?_, ?_, ?_, ?_, ?_⟩
    all_goals (rw [cell_of_row _ _ _ _ _ _ h1]; rfl))
  have zRH : w.heap.size < w1.heap.size := zR1
  refine wp_region_u (by kernel_rfl) (fun w' => Below w.heap.size w w' ∧ w'.heap[w1.heap.size]? = some (.cells zHead 37 (0, 0)) ∧ (w'.heap[w.heap.size]? = some (.cells zEnt 23 (0, 0)) ∨ w'.heap[w.heap.size]? = some (.cells #[.int .i64 0, .string ⟨#[]⟩, .string ⟨#[]⟩, .int .i64 0, .int .i64 0, .int .i64 0, .int .i64 0, .string ⟨#[]⟩, .string ⟨#[]⟩, .string ⟨#[]⟩] 23 (0, 0)))) (fun x y => y.heap[w.heap.size]? = x.heap[w.heap.size]? ∨ y.heap[w.heap.size]? = some (.cells #[.int .i64 0, .string ⟨#[]⟩, .string ⟨#[]⟩, .int .i64 0, .int .i64 0, .int .i64 0, .int .i64 0, .string ⟨#[]⟩, .string ⟨#[]⟩, .string ⟨#[]⟩] 23 (0, 0))) (fun d v _ => match d with | 13 => v = .pointer (some ⟨w1.heap.size, 0, none⟩) | 14 => v = .agg #[.int .i64 0, .string ⟨#[]⟩, .string ⟨#[]⟩, .int .i64 0, .int .i64 0, .int .i64 0, .int .i64 0, .string ⟨#[]⟩, .string ⟨#[]⟩, .string ⟨#[]⟩] | 15 => v = .pointer (some ⟨w1.heap.size, 10, none⟩) | 16 => v = .string ⟨#[]⟩ | 17 => v = .pointer (some ⟨w1.heap.size, 11, none⟩) | 18 => v = .int .i64 0 | 19 => v = .iface 81 (.agg #[.int .i64 cd]) | 20 => v = .int .i64 cd | 3 => v = .string ⟨#[]⟩ | 4 => v = .int .i64 0 | 5 => v = .int .i64 cd | _ => True) (fun o w' => o.dst = none → w'.heap[w.heap.size]? = some (.cells #[.int .i64 0, .string ⟨#[]⟩, .string ⟨#[]⟩, .int .i64 0, .int .i64 0, .int .i64 0, .int .i64 0, .string ⟨#[]⟩, .string ⟨#[]⟩, .string ⟨#[]⟩] 23 (0, 0))) (by kernel_rfl) ⟨B4.out.drew, OB'.out, .inl RO4.out⟩ (fun _ _ _ _ _ _ h => h) (fun _ _ _ _ hs hu hd => Or.elim hs (fun h => h.trans (hu hd)) (fun h => h)) ?hops ?hend
  case hops =>
    simp only [List.forall_mem_cons]
    refine ⟨?o13, ?o14, ?o15, ?o16, ?o17, ?o18, ?o19, ?o20, ?os8, ?o3, ?o4, ?o5, fun _ h => by cases h⟩
    case o13 =>
      intro Q a w2 hC hV hI
      have e6 : a.eval (.tmp 6) = .pointer (some ⟨w1.heap.size, 0, none⟩) := (hI 6 (by simp [Op.operands]) (by kernel_rfl)).trans rfl
      have f6 : a.tmps.getD 6 undef = .pointer (some ⟨w1.heap.size, 0, none⟩) := e6
      have g6 : a.tmps[6]?.getD undef = .pointer (some ⟨w1.heap.size, 0, none⟩) := by rw [← Array.getD_eq_getD_getElem?]; exact e6
      refine opU_val (C := fun w' => Below w.heap.size w w' ∧ w'.heap[w1.heap.size]? = some (.cells zHead 37 (0, 0)) ∧ (w'.heap[w.heap.size]? = some (.cells zEnt 23 (0, 0)) ∨ w'.heap[w.heap.size]? = some (.cells #[.int .i64 0, .string ⟨#[]⟩, .string ⟨#[]⟩, .int .i64 0, .int .i64 0, .int .i64 0, .int .i64 0, .string ⟨#[]⟩, .string ⟨#[]⟩, .string ⟨#[]⟩] 23 (0, 0)))) (St := fun x y => y.heap[w.heap.size]? = x.heap[w.heap.size]? ∨ y.heap[w.heap.size]? = some (.cells #[.int .i64 0, .string ⟨#[]⟩, .string ⟨#[]⟩, .int .i64 0, .int .i64 0, .int .i64 0, .int .i64 0, .string ⟨#[]⟩, .string ⟨#[]⟩, .string ⟨#[]⟩] 23 (0, 0))) (V := fun d v _ => match d with | 13 => v = .pointer (some ⟨w1.heap.size, 0, none⟩) | 14 => v = .agg #[.int .i64 0, .string ⟨#[]⟩, .string ⟨#[]⟩, .int .i64 0, .int .i64 0, .int .i64 0, .int .i64 0, .string ⟨#[]⟩, .string ⟨#[]⟩, .string ⟨#[]⟩] | 15 => v = .pointer (some ⟨w1.heap.size, 10, none⟩) | 16 => v = .string ⟨#[]⟩ | 17 => v = .pointer (some ⟨w1.heap.size, 11, none⟩) | 18 => v = .int .i64 0 | 19 => v = .iface 81 (.agg #[.int .i64 cd]) | 20 => v = .int .i64 cd | 3 => v = .string ⟨#[]⟩ | 4 => v = .int .i64 0 | 5 => v = .int .i64 cd | _ => True) (U := fun o w' => o.dst = none → w'.heap[w.heap.size]? = some (.cells #[.int .i64 0, .string ⟨#[]⟩, .string ⟨#[]⟩, .int .i64 0, .int .i64 0, .int .i64 0, .int .i64 0, .string ⟨#[]⟩, .string ⟨#[]⟩, .string ⟨#[]⟩] 23 (0, 0))) (w' := w2) (.pointer (some ⟨w1.heap.size, 0, none⟩)) ?_ ?_ ?_ ?_ ?_
      · (clear hV hI hC; go_simp <;> (first | rfl | simp))
      · exact hC
      · exact Or.inl rfl
      · intro d hd; cases hd; rfl
      · intro h; cases h
    case o14 =>
      intro Q a w2 hC hV hI
      have e13 : a.eval (.tmp 13) = .pointer (some ⟨w1.heap.size, 0, none⟩) := hV 13 (by simp [Op.operands]) (by kernel_rfl)
      have f13 : a.tmps.getD 13 undef = .pointer (some ⟨w1.heap.size, 0, none⟩) := e13
      have g13 : a.tmps[13]?.getD undef = .pointer (some ⟨w1.heap.size, 0, none⟩) := by rw [← Array.getD_eq_getD_getElem?]; exact e13
      have hK := KC.out w2 hC.2.1
      refine opU_val (C := fun w' => Below w.heap.size w w' ∧ w'.heap[w1.heap.size]? = some (.cells zHead 37 (0, 0)) ∧ (w'.heap[w.heap.size]? = some (.cells zEnt 23 (0, 0)) ∨ w'.heap[w.heap.size]? = some (.cells #[.int .i64 0, .string ⟨#[]⟩, .string ⟨#[]⟩, .int .i64 0, .int .i64 0, .int .i64 0, .int .i64 0, .string ⟨#[]⟩, .string ⟨#[]⟩, .string ⟨#[]⟩] 23 (0, 0)))) (St := fun x y => y.heap[w.heap.size]? = x.heap[w.heap.size]? ∨ y.heap[w.heap.size]? = some (.cells #[.int .i64 0, .string ⟨#[]⟩, .string ⟨#[]⟩, .int .i64 0, .int .i64 0, .int .i64 0, .int .i64 0, .string ⟨#[]⟩, .string ⟨#[]⟩, .string ⟨#[]⟩] 23 (0, 0))) (V := fun d v _ => match d with | 13 => v = .pointer (some ⟨w1.heap.size, 0, none⟩) | 14 => v = .agg #[.int .i64 0, .string ⟨#[]⟩, .string ⟨#[]⟩, .int .i64 0, .int .i64 0, .int .i64 0, .int .i64 0, .string ⟨#[]⟩, .string ⟨#[]⟩, .string ⟨#[]⟩] | 15 => v = .pointer (some ⟨w1.heap.size, 10, none⟩) | 16 => v = .string ⟨#[]⟩ | 17 => v = .pointer (some ⟨w1.heap.size, 11, none⟩) | 18 => v = .int .i64 0 | 19 => v = .iface 81 (.agg #[.int .i64 cd]) | 20 => v = .int .i64 cd | 3 => v = .string ⟨#[]⟩ | 4 => v = .int .i64 0 | 5 => v = .int .i64 cd | _ => True) (U := fun o w' => o.dst = none → w'.heap[w.heap.size]? = some (.cells #[.int .i64 0, .string ⟨#[]⟩, .string ⟨#[]⟩, .int .i64 0, .int .i64 0, .int .i64 0, .int .i64 0, .string ⟨#[]⟩, .string ⟨#[]⟩, .string ⟨#[]⟩] 23 (0, 0))) (w' := w2) (.agg #[.int .i64 0, .string ⟨#[]⟩, .string ⟨#[]⟩, .int .i64 0, .int .i64 0, .int .i64 0, .int .i64 0, .string ⟨#[]⟩, .string ⟨#[]⟩, .string ⟨#[]⟩]) ?_ ?_ ?_ ?_ ?_
      · (clear hV hI hC; go_simp <;> (first | rfl | simp))
      · exact hC
      · exact Or.inl rfl
      · intro d hd; cases hd; rfl
      · intro h; cases h
    case o15 =>
      intro Q a w2 hC hV hI
      have e6 : a.eval (.tmp 6) = .pointer (some ⟨w1.heap.size, 0, none⟩) := (hI 6 (by simp [Op.operands]) (by kernel_rfl)).trans rfl
      have f6 : a.tmps.getD 6 undef = .pointer (some ⟨w1.heap.size, 0, none⟩) := e6
      have g6 : a.tmps[6]?.getD undef = .pointer (some ⟨w1.heap.size, 0, none⟩) := by rw [← Array.getD_eq_getD_getElem?]; exact e6
      refine opU_val (C := fun w' => Below w.heap.size w w' ∧ w'.heap[w1.heap.size]? = some (.cells zHead 37 (0, 0)) ∧ (w'.heap[w.heap.size]? = some (.cells zEnt 23 (0, 0)) ∨ w'.heap[w.heap.size]? = some (.cells #[.int .i64 0, .string ⟨#[]⟩, .string ⟨#[]⟩, .int .i64 0, .int .i64 0, .int .i64 0, .int .i64 0, .string ⟨#[]⟩, .string ⟨#[]⟩, .string ⟨#[]⟩] 23 (0, 0)))) (St := fun x y => y.heap[w.heap.size]? = x.heap[w.heap.size]? ∨ y.heap[w.heap.size]? = some (.cells #[.int .i64 0, .string ⟨#[]⟩, .string ⟨#[]⟩, .int .i64 0, .int .i64 0, .int .i64 0, .int .i64 0, .string ⟨#[]⟩, .string ⟨#[]⟩, .string ⟨#[]⟩] 23 (0, 0))) (V := fun d v _ => match d with | 13 => v = .pointer (some ⟨w1.heap.size, 0, none⟩) | 14 => v = .agg #[.int .i64 0, .string ⟨#[]⟩, .string ⟨#[]⟩, .int .i64 0, .int .i64 0, .int .i64 0, .int .i64 0, .string ⟨#[]⟩, .string ⟨#[]⟩, .string ⟨#[]⟩] | 15 => v = .pointer (some ⟨w1.heap.size, 10, none⟩) | 16 => v = .string ⟨#[]⟩ | 17 => v = .pointer (some ⟨w1.heap.size, 11, none⟩) | 18 => v = .int .i64 0 | 19 => v = .iface 81 (.agg #[.int .i64 cd]) | 20 => v = .int .i64 cd | 3 => v = .string ⟨#[]⟩ | 4 => v = .int .i64 0 | 5 => v = .int .i64 cd | _ => True) (U := fun o w' => o.dst = none → w'.heap[w.heap.size]? = some (.cells #[.int .i64 0, .string ⟨#[]⟩, .string ⟨#[]⟩, .int .i64 0, .int .i64 0, .int .i64 0, .int .i64 0, .string ⟨#[]⟩, .string ⟨#[]⟩, .string ⟨#[]⟩] 23 (0, 0))) (w' := w2) (.pointer (some ⟨w1.heap.size, 10, none⟩)) ?_ ?_ ?_ ?_ ?_
      · (clear hV hI hC; go_simp <;> (first | rfl | simp))
      · exact hC
      · exact Or.inl rfl
      · intro d hd; cases hd; rfl
      · intro h; cases h
    case o16 =>
      intro Q a w2 hC hV hI
      have e15 : a.eval (.tmp 15) = .pointer (some ⟨w1.heap.size, 10, none⟩) := hV 15 (by simp [Op.operands]) (by kernel_rfl)
      have f15 : a.tmps.getD 15 undef = .pointer (some ⟨w1.heap.size, 10, none⟩) := e15
      have g15 : a.tmps[15]?.getD undef = .pointer (some ⟨w1.heap.size, 10, none⟩) := by rw [← Array.getD_eq_getD_getElem?]; exact e15
      have hK := KC.out w2 hC.2.1
      refine opU_val (C := fun w' => Below w.heap.size w w' ∧ w'.heap[w1.heap.size]? = some (.cells zHead 37 (0, 0)) ∧ (w'.heap[w.heap.size]? = some (.cells zEnt 23 (0, 0)) ∨ w'.heap[w.heap.size]? = some (.cells #[.int .i64 0, .string ⟨#[]⟩, .string ⟨#[]⟩, .int .i64 0, .int .i64 0, .int .i64 0, .int .i64 0, .string ⟨#[]⟩, .string ⟨#[]⟩, .string ⟨#[]⟩] 23 (0, 0)))) (St := fun x y => y.heap[w.heap.size]? = x.heap[w.heap.size]? ∨ y.heap[w.heap.size]? = some (.cells #[.int .i64 0, .string ⟨#[]⟩, .string ⟨#[]⟩, .int .i64 0, .int .i64 0, .int .i64 0, .int .i64 0, .string ⟨#[]⟩, .string ⟨#[]⟩, .string ⟨#[]⟩] 23 (0, 0))) (V := fun d v _ => match d with | 13 => v = .pointer (some ⟨w1.heap.size, 0, none⟩) | 14 => v = .agg #[.int .i64 0, .string ⟨#[]⟩, .string ⟨#[]⟩, .int .i64 0, .int .i64 0, .int .i64 0, .int .i64 0, .string ⟨#[]⟩, .string ⟨#[]⟩, .string ⟨#[]⟩] | 15 => v = .pointer (some ⟨w1.heap.size, 10, none⟩) | 16 => v = .string ⟨#[]⟩ | 17 => v = .pointer (some ⟨w1.heap.size, 11, none⟩) | 18 => v = .int .i64 0 | 19 => v = .iface 81 (.agg #[.int .i64 cd]) | 20 => v = .int .i64 cd | 3 => v = .string ⟨#[]⟩ | 4 => v = .int .i64 0 | 5 => v = .int .i64 cd | _ => True) (U := fun o w' => o.dst = none → w'.heap[w.heap.size]? = some (.cells #[.int .i64 0, .string ⟨#[]⟩, .string ⟨#[]⟩, .int .i64 0, .int .i64 0, .int .i64 0, .int .i64 0, .string ⟨#[]⟩, .string ⟨#[]⟩, .string ⟨#[]⟩] 23 (0, 0))) (w' := w2) (.string ⟨#[]⟩) ?_ ?_ ?_ ?_ ?_
      · (clear hV hI hC; go_simp <;> (first | rfl | simp))
      · exact hC
      · exact Or.inl rfl
      · intro d hd; cases hd; rfl
      · intro h; cases h
    case o17 =>
      intro Q a w2 hC hV hI
      have e6 : a.eval (.tmp 6) = .pointer (some ⟨w1.heap.size, 0, none⟩) := (hI 6 (by simp [Op.operands]) (by kernel_rfl)).trans rfl
      have f6 : a.tmps.getD 6 undef = .pointer (some ⟨w1.heap.size, 0, none⟩) := e6
      have g6 : a.tmps[6]?.getD undef = .pointer (some ⟨w1.heap.size, 0, none⟩) := by rw [← Array.getD_eq_getD_getElem?]; exact e6
      refine opU_val (C := fun w' => Below w.heap.size w w' ∧ w'.heap[w1.heap.size]? = some (.cells zHead 37 (0, 0)) ∧ (w'.heap[w.heap.size]? = some (.cells zEnt 23 (0, 0)) ∨ w'.heap[w.heap.size]? = some (.cells #[.int .i64 0, .string ⟨#[]⟩, .string ⟨#[]⟩, .int .i64 0, .int .i64 0, .int .i64 0, .int .i64 0, .string ⟨#[]⟩, .string ⟨#[]⟩, .string ⟨#[]⟩] 23 (0, 0)))) (St := fun x y => y.heap[w.heap.size]? = x.heap[w.heap.size]? ∨ y.heap[w.heap.size]? = some (.cells #[.int .i64 0, .string ⟨#[]⟩, .string ⟨#[]⟩, .int .i64 0, .int .i64 0, .int .i64 0, .int .i64 0, .string ⟨#[]⟩, .string ⟨#[]⟩, .string ⟨#[]⟩] 23 (0, 0))) (V := fun d v _ => match d with | 13 => v = .pointer (some ⟨w1.heap.size, 0, none⟩) | 14 => v = .agg #[.int .i64 0, .string ⟨#[]⟩, .string ⟨#[]⟩, .int .i64 0, .int .i64 0, .int .i64 0, .int .i64 0, .string ⟨#[]⟩, .string ⟨#[]⟩, .string ⟨#[]⟩] | 15 => v = .pointer (some ⟨w1.heap.size, 10, none⟩) | 16 => v = .string ⟨#[]⟩ | 17 => v = .pointer (some ⟨w1.heap.size, 11, none⟩) | 18 => v = .int .i64 0 | 19 => v = .iface 81 (.agg #[.int .i64 cd]) | 20 => v = .int .i64 cd | 3 => v = .string ⟨#[]⟩ | 4 => v = .int .i64 0 | 5 => v = .int .i64 cd | _ => True) (U := fun o w' => o.dst = none → w'.heap[w.heap.size]? = some (.cells #[.int .i64 0, .string ⟨#[]⟩, .string ⟨#[]⟩, .int .i64 0, .int .i64 0, .int .i64 0, .int .i64 0, .string ⟨#[]⟩, .string ⟨#[]⟩, .string ⟨#[]⟩] 23 (0, 0))) (w' := w2) (.pointer (some ⟨w1.heap.size, 11, none⟩)) ?_ ?_ ?_ ?_ ?_
      · (clear hV hI hC; go_simp <;> (first | rfl | simp))
      · exact hC
      · exact Or.inl rfl
      · intro d hd; cases hd; rfl
      · intro h; cases h
    case o18 =>
      intro Q a w2 hC hV hI
      have e17 : a.eval (.tmp 17) = .pointer (some ⟨w1.heap.size, 11, none⟩) := hV 17 (by simp [Op.operands]) (by kernel_rfl)
      have f17 : a.tmps.getD 17 undef = .pointer (some ⟨w1.heap.size, 11, none⟩) := e17
      have g17 : a.tmps[17]?.getD undef = .pointer (some ⟨w1.heap.size, 11, none⟩) := by rw [← Array.getD_eq_getD_getElem?]; exact e17
      have hK := KC.out w2 hC.2.1
      refine opU_val (C := fun w' => Below w.heap.size w w' ∧ w'.heap[w1.heap.size]? = some (.cells zHead 37 (0, 0)) ∧ (w'.heap[w.heap.size]? = some (.cells zEnt 23 (0, 0)) ∨ w'.heap[w.heap.size]? = some (.cells #[.int .i64 0, .string ⟨#[]⟩, .string ⟨#[]⟩, .int .i64 0, .int .i64 0, .int .i64 0, .int .i64 0, .string ⟨#[]⟩, .string ⟨#[]⟩, .string ⟨#[]⟩] 23 (0, 0)))) (St := fun x y => y.heap[w.heap.size]? = x.heap[w.heap.size]? ∨ y.heap[w.heap.size]? = some (.cells #[.int .i64 0, .string ⟨#[]⟩, .string ⟨#[]⟩, .int .i64 0, .int .i64 0, .int .i64 0, .int .i64 0, .string ⟨#[]⟩, .string ⟨#[]⟩, .string ⟨#[]⟩] 23 (0, 0))) (V := fun d v _ => match d with | 13 => v = .pointer (some ⟨w1.heap.size, 0, none⟩) | 14 => v = .agg #[.int .i64 0, .string ⟨#[]⟩, .string ⟨#[]⟩, .int .i64 0, .int .i64 0, .int .i64 0, .int .i64 0, .string ⟨#[]⟩, .string ⟨#[]⟩, .string ⟨#[]⟩] | 15 => v = .pointer (some ⟨w1.heap.size, 10, none⟩) | 16 => v = .string ⟨#[]⟩ | 17 => v = .pointer (some ⟨w1.heap.size, 11, none⟩) | 18 => v = .int .i64 0 | 19 => v = .iface 81 (.agg #[.int .i64 cd]) | 20 => v = .int .i64 cd | 3 => v = .string ⟨#[]⟩ | 4 => v = .int .i64 0 | 5 => v = .int .i64 cd | _ => True) (U := fun o w' => o.dst = none → w'.heap[w.heap.size]? = some (.cells #[.int .i64 0, .string ⟨#[]⟩, .string ⟨#[]⟩, .int .i64 0, .int .i64 0, .int .i64 0, .int .i64 0, .string ⟨#[]⟩, .string ⟨#[]⟩, .string ⟨#[]⟩] 23 (0, 0))) (w' := w2) (.int .i64 0) ?_ ?_ ?_ ?_ ?_
      · (clear hV hI hC; go_simp <;> (first | rfl | simp))
      · exact hC
      · exact Or.inl rfl
      · intro d hd; cases hd; rfl
      · intro h; cases h
    case o19 =>
      intro Q a w2 hC hV hI
      have e7 : a.eval (.tmp 7) = .iface 81 (.agg #[.int .i64 cd]) := (hI 7 (by simp [Op.operands]) (by kernel_rfl)).trans rfl
      have f7 : a.tmps.getD 7 undef = .iface 81 (.agg #[.int .i64 cd]) := e7
      have g7 : a.tmps[7]?.getD undef = .iface 81 (.agg #[.int .i64 cd]) := by rw [← Array.getD_eq_getD_getElem?]; exact e7
      refine opU_val (C := fun w' => Below w.heap.size w w' ∧ w'.heap[w1.heap.size]? = some (.cells zHead 37 (0, 0)) ∧ (w'.heap[w.heap.size]? = some (.cells zEnt 23 (0, 0)) ∨ w'.heap[w.heap.size]? = some (.cells #[.int .i64 0, .string ⟨#[]⟩, .string ⟨#[]⟩, .int .i64 0, .int .i64 0, .int .i64 0, .int .i64 0, .string ⟨#[]⟩, .string ⟨#[]⟩, .string ⟨#[]⟩] 23 (0, 0)))) (St := fun x y => y.heap[w.heap.size]? = x.heap[w.heap.size]? ∨ y.heap[w.heap.size]? = some (.cells #[.int .i64 0, .string ⟨#[]⟩, .string ⟨#[]⟩, .int .i64 0, .int .i64 0, .int .i64 0, .int .i64 0, .string ⟨#[]⟩, .string ⟨#[]⟩, .string ⟨#[]⟩] 23 (0, 0))) (V := fun d v _ => match d with | 13 => v = .pointer (some ⟨w1.heap.size, 0, none⟩) | 14 => v = .agg #[.int .i64 0, .string ⟨#[]⟩, .string ⟨#[]⟩, .int .i64 0, .int .i64 0, .int .i64 0, .int .i64 0, .string ⟨#[]⟩, .string ⟨#[]⟩, .string ⟨#[]⟩] | 15 => v = .pointer (some ⟨w1.heap.size, 10, none⟩) | 16 => v = .string ⟨#[]⟩ | 17 => v = .pointer (some ⟨w1.heap.size, 11, none⟩) | 18 => v = .int .i64 0 | 19 => v = .iface 81 (.agg #[.int .i64 cd]) | 20 => v = .int .i64 cd | 3 => v = .string ⟨#[]⟩ | 4 => v = .int .i64 0 | 5 => v = .int .i64 cd | _ => True) (U := fun o w' => o.dst = none → w'.heap[w.heap.size]? = some (.cells #[.int .i64 0, .string ⟨#[]⟩, .string ⟨#[]⟩, .int .i64 0, .int .i64 0, .int .i64 0, .int .i64 0, .string ⟨#[]⟩, .string ⟨#[]⟩, .string ⟨#[]⟩] 23 (0, 0))) (w' := w2) (.iface 81 (.agg #[.int .i64 cd])) ?_ ?_ ?_ ?_ ?_
      · (clear hV hI hC; go_simp <;> (first | rfl | simp))
      · exact hC
      · exact Or.inl rfl
      · intro d hd; cases hd; rfl
      · intro h; cases h
    case o20 =>
      intro Q a w2 hC hV hI
      have e19 : a.eval (.tmp 19) = .iface 81 (.agg #[.int .i64 cd]) := hV 19 (by simp [Op.operands, Call.operands]) (by kernel_rfl)
      have f19 : a.tmps.getD 19 undef = .iface 81 (.agg #[.int .i64 cd]) := e19
      have g19 : a.tmps[19]?.getD undef = .iface 81 (.agg #[.int .i64 cd]) := by rw [← Array.getD_eq_getD_getElem?]; exact e19
      refine opU_call (C := fun w' => Below w.heap.size w w' ∧ w'.heap[w1.heap.size]? = some (.cells zHead 37 (0, 0)) ∧ (w'.heap[w.heap.size]? = some (.cells zEnt 23 (0, 0)) ∨ w'.heap[w.heap.size]? = some (.cells #[.int .i64 0, .string ⟨#[]⟩, .string ⟨#[]⟩, .int .i64 0, .int .i64 0, .int .i64 0, .int .i64 0, .string ⟨#[]⟩, .string ⟨#[]⟩, .string ⟨#[]⟩] 23 (0, 0)))) (St := fun x y => y.heap[w.heap.size]? = x.heap[w.heap.size]? ∨ y.heap[w.heap.size]? = some (.cells #[.int .i64 0, .string ⟨#[]⟩, .string ⟨#[]⟩, .int .i64 0, .int .i64 0, .int .i64 0, .int .i64 0, .string ⟨#[]⟩, .string ⟨#[]⟩, .string ⟨#[]⟩] 23 (0, 0))) (V := fun d v _ => match d with | 13 => v = .pointer (some ⟨w1.heap.size, 0, none⟩) | 14 => v = .agg #[.int .i64 0, .string ⟨#[]⟩, .string ⟨#[]⟩, .int .i64 0, .int .i64 0, .int .i64 0, .int .i64 0, .string ⟨#[]⟩, .string ⟨#[]⟩, .string ⟨#[]⟩] | 15 => v = .pointer (some ⟨w1.heap.size, 10, none⟩) | 16 => v = .string ⟨#[]⟩ | 17 => v = .pointer (some ⟨w1.heap.size, 11, none⟩) | 18 => v = .int .i64 0 | 19 => v = .iface 81 (.agg #[.int .i64 cd]) | 20 => v = .int .i64 cd | 3 => v = .string ⟨#[]⟩ | 4 => v = .int .i64 0 | 5 => v = .int .i64 cd | _ => True) (U := fun o w' => o.dst = none → w'.heap[w.heap.size]? = some (.cells #[.int .i64 0, .string ⟨#[]⟩, .string ⟨#[]⟩, .int .i64 0, .int .i64 0, .int .i64 0, .int .i64 0, .string ⟨#[]⟩, .string ⟨#[]⟩, .string ⟨#[]⟩] 23 (0, 0))) (f := 26) (args := #[.iface 81 (.agg #[.int .i64 cd])]) (R := fun v y => v = .int .i64 cd ∧ Below w2.heap.size w2 y) ?_ ((HCo.out w2 (HH.out.below hC.1)).mono ?_) ?_
      · (clear hV hI hC; go_simp <;> (first | rfl | simp))
      · rintro e y ⟨rfl, hb⟩; exact ⟨_, rfl, rfl, hb⟩
      · rintro v y ⟨rfl, hb⟩; exact ⟨⟨hC.1.trans (hb.mono hC.1.size), (hb.block _ (obj_lt hC.2.1)).trans hC.2.1, hC.2.2.imp (fun h => (hb.block _ (obj_lt h)).trans h) (fun h => (hb.block _ (obj_lt h)).trans h)⟩, .inl (hb.block _ (Nat.lt_trans zRH (obj_lt hC.2.1))), (by intro d hd; cases hd; rfl), fun h => (by cases h)⟩
    case os8 =>
      intro Q a w2 hC hV hI
      have e2 : a.eval (.tmp 2) = .pointer (some ⟨w.heap.size, 0, none⟩) := (hI 2 (by simp [Op.operands]) (by kernel_rfl)).trans rfl
      have f2 : a.tmps.getD 2 undef = .pointer (some ⟨w.heap.size, 0, none⟩) := e2
      have g2 : a.tmps[2]?.getD undef = .pointer (some ⟨w.heap.size, 0, none⟩) := by rw [← Array.getD_eq_getD_getElem?]; exact e2
      have e14 : a.eval (.tmp 14) = .agg #[.int .i64 0, .string ⟨#[]⟩, .string ⟨#[]⟩, .int .i64 0, .int .i64 0, .int .i64 0, .int .i64 0, .string ⟨#[]⟩, .string ⟨#[]⟩, .string ⟨#[]⟩] := hV 14 (by simp [Op.operands]) (by kernel_rfl)
      have f14 : a.tmps.getD 14 undef = .agg #[.int .i64 0, .string ⟨#[]⟩, .string ⟨#[]⟩, .int .i64 0, .int .i64 0, .int .i64 0, .int .i64 0, .string ⟨#[]⟩, .string ⟨#[]⟩, .string ⟨#[]⟩] := e14
      have g14 : a.tmps[14]?.getD undef = .agg #[.int .i64 0, .string ⟨#[]⟩, .string ⟨#[]⟩, .int .i64 0, .int .i64 0, .int .i64 0, .int .i64 0, .string ⟨#[]⟩, .string ⟨#[]⟩, .string ⟨#[]⟩] := by rw [← Array.getD_eq_getD_getElem?]; exact e14
      have hS : ∀ cs : Array Value, cs.size = 10 → w2.heap[w.heap.size]? = some (.cells cs 23 (0, 0)) → _ := fun cs hc hR => run_storeVar_row (P := Tryz.prog) w2 w.heap.size 23 23 cs #[.int .i64 0, .string ⟨#[]⟩, .string ⟨#[]⟩, .int .i64 0, .int .i64 0, .int .i64 0, .int .i64 0, .string ⟨#[]⟩, .string ⟨#[]⟩, .string ⟨#[]⟩] hR (by rw [Tryz.sizeEnt]; rfl) hc (by simp [Value.oneCell'])
      have hR2 : (w2.setRow w.heap.size #[.int .i64 0, .string ⟨#[]⟩, .string ⟨#[]⟩, .int .i64 0, .int .i64 0, .int .i64 0, .int .i64 0, .string ⟨#[]⟩, .string ⟨#[]⟩, .string ⟨#[]⟩]).heap[w.heap.size]? = some (.cells #[.int .i64 0, .string ⟨#[]⟩, .string ⟨#[]⟩, .int .i64 0, .int .i64 0, .int .i64 0, .int .i64 0, .string ⟨#[]⟩, .string ⟨#[]⟩, .string ⟨#[]⟩] 23 (0, 0)) := hC.2.2.elim (fun h => setRow_heap _ _ _ _ _ _ h) (fun h => setRow_heap _ _ _ _ _ _ h)
      refine opU_store (C := fun w' => Below w.heap.size w w' ∧ w'.heap[w1.heap.size]? = some (.cells zHead 37 (0, 0)) ∧ (w'.heap[w.heap.size]? = some (.cells zEnt 23 (0, 0)) ∨ w'.heap[w.heap.size]? = some (.cells #[.int .i64 0, .string ⟨#[]⟩, .string ⟨#[]⟩, .int .i64 0, .int .i64 0, .int .i64 0, .int .i64 0, .string ⟨#[]⟩, .string ⟨#[]⟩, .string ⟨#[]⟩] 23 (0, 0)))) (St := fun x y => y.heap[w.heap.size]? = x.heap[w.heap.size]? ∨ y.heap[w.heap.size]? = some (.cells #[.int .i64 0, .string ⟨#[]⟩, .string ⟨#[]⟩, .int .i64 0, .int .i64 0, .int .i64 0, .int .i64 0, .string ⟨#[]⟩, .string ⟨#[]⟩, .string ⟨#[]⟩] 23 (0, 0))) (V := fun d v _ => match d with | 13 => v = .pointer (some ⟨w1.heap.size, 0, none⟩) | 14 => v = .agg #[.int .i64 0, .string ⟨#[]⟩, .string ⟨#[]⟩, .int .i64 0, .int .i64 0, .int .i64 0, .int .i64 0, .string ⟨#[]⟩, .string ⟨#[]⟩, .string ⟨#[]⟩] | 15 => v = .pointer (some ⟨w1.heap.size, 10, none⟩) | 16 => v = .string ⟨#[]⟩ | 17 => v = .pointer (some ⟨w1.heap.size, 11, none⟩) | 18 => v = .int .i64 0 | 19 => v = .iface 81 (.agg #[.int .i64 cd]) | 20 => v = .int .i64 cd | 3 => v = .string ⟨#[]⟩ | 4 => v = .int .i64 0 | 5 => v = .int .i64 cd | _ => True) (U := fun o w' => o.dst = none → w'.heap[w.heap.size]? = some (.cells #[.int .i64 0, .string ⟨#[]⟩, .string ⟨#[]⟩, .int .i64 0, .int .i64 0, .int .i64 0, .int .i64 0, .string ⟨#[]⟩, .string ⟨#[]⟩, .string ⟨#[]⟩] 23 (0, 0))) 23 _ _ rfl rfl ⟨w.heap.size, 0, none⟩ e2 e14 (hC.2.2.elim (fun h => hS _ rfl h) (fun h => hS _ rfl h)) ?_ ?_ ?_
      · exact ⟨hC.1.trans (below_set (Nat.le_refl _) _), by rw [setRow_other _ _ _ _ (by omega)]; exact hC.2.1, Or.inr hR2⟩
      · exact Or.inr hR2
      · intro _; exact hR2
    case o3 =>
      intro Q a w2 hC hV hI
      have e16 : a.eval (.tmp 16) = .string ⟨#[]⟩ := hV 16 (by simp [Op.operands]) (by kernel_rfl)
      have f16 : a.tmps.getD 16 undef = .string ⟨#[]⟩ := e16
      have g16 : a.tmps[16]?.getD undef = .string ⟨#[]⟩ := by rw [← Array.getD_eq_getD_getElem?]; exact e16
      refine opU_val (C := fun w' => Below w.heap.size w w' ∧ w'.heap[w1.heap.size]? = some (.cells zHead 37 (0, 0)) ∧ (w'.heap[w.heap.size]? = some (.cells zEnt 23 (0, 0)) ∨ w'.heap[w.heap.size]? = some (.cells #[.int .i64 0, .string ⟨#[]⟩, .string ⟨#[]⟩, .int .i64 0, .int .i64 0, .int .i64 0, .int .i64 0, .string ⟨#[]⟩, .string ⟨#[]⟩, .string ⟨#[]⟩] 23 (0, 0)))) (St := fun x y => y.heap[w.heap.size]? = x.heap[w.heap.size]? ∨ y.heap[w.heap.size]? = some (.cells #[.int .i64 0, .string ⟨#[]⟩, .string ⟨#[]⟩, .int .i64 0, .int .i64 0, .int .i64 0, .int .i64 0, .string ⟨#[]⟩, .string ⟨#[]⟩, .string ⟨#[]⟩] 23 (0, 0))) (V := fun d v _ => match d with | 13 => v = .pointer (some ⟨w1.heap.size, 0, none⟩) | 14 => v = .agg #[.int .i64 0, .string ⟨#[]⟩, .string ⟨#[]⟩, .int .i64 0, .int .i64 0, .int .i64 0, .int .i64 0, .string ⟨#[]⟩, .string ⟨#[]⟩, .string ⟨#[]⟩] | 15 => v = .pointer (some ⟨w1.heap.size, 10, none⟩) | 16 => v = .string ⟨#[]⟩ | 17 => v = .pointer (some ⟨w1.heap.size, 11, none⟩) | 18 => v = .int .i64 0 | 19 => v = .iface 81 (.agg #[.int .i64 cd]) | 20 => v = .int .i64 cd | 3 => v = .string ⟨#[]⟩ | 4 => v = .int .i64 0 | 5 => v = .int .i64 cd | _ => True) (U := fun o w' => o.dst = none → w'.heap[w.heap.size]? = some (.cells #[.int .i64 0, .string ⟨#[]⟩, .string ⟨#[]⟩, .int .i64 0, .int .i64 0, .int .i64 0, .int .i64 0, .string ⟨#[]⟩, .string ⟨#[]⟩, .string ⟨#[]⟩] 23 (0, 0))) (w' := w2) (.string ⟨#[]⟩) ?_ ?_ ?_ ?_ ?_
      · (clear hV hI hC; go_simp <;> (first | rfl | simp))
      · exact hC
      · exact Or.inl rfl
      · intro d hd; cases hd; rfl
      · intro h; cases h
    case o4 =>
      intro Q a w2 hC hV hI
      have e18 : a.eval (.tmp 18) = .int .i64 0 := hV 18 (by simp [Op.operands]) (by kernel_rfl)
      have f18 : a.tmps.getD 18 undef = .int .i64 0 := e18
      have g18 : a.tmps[18]?.getD undef = .int .i64 0 := by rw [← Array.getD_eq_getD_getElem?]; exact e18
      refine opU_val (C := fun w' => Below w.heap.size w w' ∧ w'.heap[w1.heap.size]? = some (.cells zHead 37 (0, 0)) ∧ (w'.heap[w.heap.size]? = some (.cells zEnt 23 (0, 0)) ∨ w'.heap[w.heap.size]? = some (.cells #[.int .i64 0, .string ⟨#[]⟩, .string ⟨#[]⟩, .int .i64 0, .int .i64 0, .int .i64 0, .int .i64 0, .string ⟨#[]⟩, .string ⟨#[]⟩, .string ⟨#[]⟩] 23 (0, 0)))) (St := fun x y => y.heap[w.heap.size]? = x.heap[w.heap.size]? ∨ y.heap[w.heap.size]? = some (.cells #[.int .i64 0, .string ⟨#[]⟩, .string ⟨#[]⟩, .int .i64 0, .int .i64 0, .int .i64 0, .int .i64 0, .string ⟨#[]⟩, .string ⟨#[]⟩, .string ⟨#[]⟩] 23 (0, 0))) (V := fun d v _ => match d with | 13 => v = .pointer (some ⟨w1.heap.size, 0, none⟩) | 14 => v = .agg #[.int .i64 0, .string ⟨#[]⟩, .string ⟨#[]⟩, .int .i64 0, .int .i64 0, .int .i64 0, .int .i64 0, .string ⟨#[]⟩, .string ⟨#[]⟩, .string ⟨#[]⟩] | 15 => v = .pointer (some ⟨w1.heap.size, 10, none⟩) | 16 => v = .string ⟨#[]⟩ | 17 => v = .pointer (some ⟨w1.heap.size, 11, none⟩) | 18 => v = .int .i64 0 | 19 => v = .iface 81 (.agg #[.int .i64 cd]) | 20 => v = .int .i64 cd | 3 => v = .string ⟨#[]⟩ | 4 => v = .int .i64 0 | 5 => v = .int .i64 cd | _ => True) (U := fun o w' => o.dst = none → w'.heap[w.heap.size]? = some (.cells #[.int .i64 0, .string ⟨#[]⟩, .string ⟨#[]⟩, .int .i64 0, .int .i64 0, .int .i64 0, .int .i64 0, .string ⟨#[]⟩, .string ⟨#[]⟩, .string ⟨#[]⟩] 23 (0, 0))) (w' := w2) (.int .i64 0) ?_ ?_ ?_ ?_ ?_
      · (clear hV hI hC; go_simp <;> (first | rfl | simp))
      · exact hC
      · exact Or.inl rfl
      · intro d hd; cases hd; rfl
      · intro h; cases h
    case o5 =>
      intro Q a w2 hC hV hI
      have e20 : a.eval (.tmp 20) = .int .i64 cd := hV 20 (by simp [Op.operands]) (by kernel_rfl)
      have f20 : a.tmps.getD 20 undef = .int .i64 cd := e20
      have g20 : a.tmps[20]?.getD undef = .int .i64 cd := by rw [← Array.getD_eq_getD_getElem?]; exact e20
      refine opU_val (C := fun w' => Below w.heap.size w w' ∧ w'.heap[w1.heap.size]? = some (.cells zHead 37 (0, 0)) ∧ (w'.heap[w.heap.size]? = some (.cells zEnt 23 (0, 0)) ∨ w'.heap[w.heap.size]? = some (.cells #[.int .i64 0, .string ⟨#[]⟩, .string ⟨#[]⟩, .int .i64 0, .int .i64 0, .int .i64 0, .int .i64 0, .string ⟨#[]⟩, .string ⟨#[]⟩, .string ⟨#[]⟩] 23 (0, 0)))) (St := fun x y => y.heap[w.heap.size]? = x.heap[w.heap.size]? ∨ y.heap[w.heap.size]? = some (.cells #[.int .i64 0, .string ⟨#[]⟩, .string ⟨#[]⟩, .int .i64 0, .int .i64 0, .int .i64 0, .int .i64 0, .string ⟨#[]⟩, .string ⟨#[]⟩, .string ⟨#[]⟩] 23 (0, 0))) (V := fun d v _ => match d with | 13 => v = .pointer (some ⟨w1.heap.size, 0, none⟩) | 14 => v = .agg #[.int .i64 0, .string ⟨#[]⟩, .string ⟨#[]⟩, .int .i64 0, .int .i64 0, .int .i64 0, .int .i64 0, .string ⟨#[]⟩, .string ⟨#[]⟩, .string ⟨#[]⟩] | 15 => v = .pointer (some ⟨w1.heap.size, 10, none⟩) | 16 => v = .string ⟨#[]⟩ | 17 => v = .pointer (some ⟨w1.heap.size, 11, none⟩) | 18 => v = .int .i64 0 | 19 => v = .iface 81 (.agg #[.int .i64 cd]) | 20 => v = .int .i64 cd | 3 => v = .string ⟨#[]⟩ | 4 => v = .int .i64 0 | 5 => v = .int .i64 cd | _ => True) (U := fun o w' => o.dst = none → w'.heap[w.heap.size]? = some (.cells #[.int .i64 0, .string ⟨#[]⟩, .string ⟨#[]⟩, .int .i64 0, .int .i64 0, .int .i64 0, .int .i64 0, .string ⟨#[]⟩, .string ⟨#[]⟩, .string ⟨#[]⟩] 23 (0, 0))) (w' := w2) (.int .i64 cd) ?_ ?_ ?_ ?_ ?_
      · (clear hV hI hC; go_simp <;> (first | rfl | simp))
      · exact hC
      · exact Or.inl rfl
      · intro d hd; cases hd; rfl
      · intro h; cases h
  case hend =>
    intro f w5 hC hall huall
    simp only [List.forall_mem_cons] at hall
    obtain ⟨h13, h14, h15, h16, h17, h18, h19, h20, _, h3, h4, h5, _⟩ := hall
    simp only [List.forall_mem_cons] at huall
    obtain ⟨_, _, _, _, _, _, _, _, hus, _, _, _, _⟩ := huall
    replace h13 : f 13 = .pointer (some ⟨w1.heap.size, 0, none⟩) := h13 13 rfl
    replace h14 : f 14 = .agg #[.int .i64 0, .string ⟨#[]⟩, .string ⟨#[]⟩, .int .i64 0, .int .i64 0, .int .i64 0, .int .i64 0, .string ⟨#[]⟩, .string ⟨#[]⟩, .string ⟨#[]⟩] := h14 14 rfl
    replace h15 : f 15 = .pointer (some ⟨w1.heap.size, 10, none⟩) := h15 15 rfl
    replace h16 : f 16 = .string ⟨#[]⟩ := h16 16 rfl
    replace h17 : f 17 = .pointer (some ⟨w1.heap.size, 11, none⟩) := h17 17 rfl
    replace h18 : f 18 = .int .i64 0 := h18 18 rfl
    replace h19 : f 19 = .iface 81 (.agg #[.int .i64 cd]) := h19 19 rfl
    replace h20 : f 20 = .int .i64 cd := h20 20 rfl
    replace h3 : f 3 = .string ⟨#[]⟩ := h3 3 rfl
    replace h4 : f 4 = .int .i64 0 := h4 4 rfl
    replace h5 : f 5 = .int .i64 cd := h5 5 rfl
    simp only [putAll, Act.put, List.setIfInBounds_toArray, List.set_cons_succ, List.set_cons_zero, h13, h14, h15, h16, h17, h18, h19, h20, h3, h4, h5]
    clear h13 h14 h15 h16 h17 h18 h19 h20 h3 h4 h5
    have R5 := Lib.hid (hus trivial)
    have B5 := Lib.hid hC.1
    clear hC hus
    go_wp2
    refine bodyPost_ret (results_cell4 rfl _ _ w.heap.size _ #[.int .i64 0, .string ⟨#[]⟩, .string ⟨#[]⟩, .int .i64 0, .int .i64 0, .int .i64 0, .int .i64 0, .string ⟨#[]⟩, .string ⟨#[]⟩, .string ⟨#[]⟩] (0, 0) _ rfl R5.out Tryz.underlying23 rfl (by rw [Tryz.sizeEnt]; rfl)) rfl ?_
    rw [HE.out]
    exact ⟨rfl, B5.out⟩
set_option maxHeartbeats 6400000 in
set_option maxRecDepth 8000 in
theorem getLong_good (s : ByteArray) (w : World) (hs : s.size ≤ 1048576) (hc : hdcL s = 0) (hT : Tabs w) (hF : FW w) (hH : Handle w) :
    Calls Tryz.prog 12 #[.string s] w fun e w' => e = .returned (getLV s) ∧ Below w.heap.size w w' := by
  have H1 := Lib.hid (fun w hT hF => readLong_any s w hs hT hF)
  rw [((readLV_code s).resolve_right (fun h => h.1 hc)).2, okCellsG] at H1
  have HE : Hid (getLV s = .tuple #[.agg #[.int .i64 0, .string (pathL (lOf s)), .string (cutv (fW (lOf s) 8)), .int .i64 (lvalv (lOf s) 1), .int .i64 (lvalv (lOf s) 2), .int .i64 (lvalv (lOf s) 3), .int .i64 (lvalv (lOf s) 5), .string (cutv (fW (lOf s) 10)), .string (cutv (fW (lOf s) 11)), .string ⟨#[]⟩], .string (fW (lOf s) 7), .int .i64 (lvalv (lOf s) 4), .int .i64 0]) := Lib.hid (by rw [getLV, if_pos hc]; rfl)
  have HCo := Lib.hid codeOf_nil
  generalize pathL (lOf s) = pth at *
  generalize cutv (fW (lOf s) 8) = lk at *
  generalize cutv (fW (lOf s) 10) = us at *
  generalize cutv (fW (lOf s) 11) = gr at *
  generalize lvalv (lOf s) 1 = nm at *
  generalize lvalv (lOf s) 2 = nu at *
  generalize lvalv (lOf s) 3 = ng at *
  generalize lvalv (lOf s) 5 = nt at *
  generalize lvalv (lOf s) 4 = nz at *
  generalize fW (lOf s) 7 = fl at *
  clear hc
  have B0 := Lib.hid ((Below.refl w.heap.size w).alloc (Nat.le_refl _) (.cells zEnt 23))
  have R0 : Hid ((w.alloc (.cells zEnt 23)).heap[w.heap.size]? = some (.cells zEnt 23 (0, 0))) := Lib.hid (heap_alloc_last _ _)
  have HT0 := Lib.hid (hT.below B0.out)
  have HF0 := Lib.hid (hF.below B0.out)
  have HH := Lib.hid hH
  clear hT hF hH
  go_enter Tryz.func12, Tryz.ntmps12
  go_wp2_with fail
  refine (H1.out _ HT0.out HF0.out).mono ?_
  rintro e w1 ⟨rfl, hb1⟩
  have RO1 := Lib.hid ((hb1.block w.heap.size (by simp)).trans R0.out)
  have B1 := Lib.hid (B0.out.trans (hb1.mono (by simp)))
  clear hb1 R0 B0 H1 HT0 HF0
  have zR1 := obj_lt RO1.out
  have HSn := Lib.hid (run_storeVar_new (P := Tryz.prog) w1 37 zHead #[.int .i64 0, .string pth, .string lk, .int .i64 nm, .int .i64 nu, .int .i64 ng, .int .i64 nt, .string us, .string gr, .string ⟨#[]⟩, .string fl, .int .i64 nz] (by rw [Tryz.sizeHd]; rfl) rfl (by simp [Value.oneCell']))
  go_wp2_with ((with_reducible refine wpList_store_eq rfl 37 _ _ rfl ⟨w1.heap.size, 0, none⟩ ?_ ?_ HSn.out ?_); rfl; rfl)
  have OB := heap_alloc_last w1 (.cells #[.int .i64 0, .string pth, .string lk, .int .i64 nm, .int .i64 nu, .int .i64 ng, .int .i64 nt, .string us, .string gr, .string ⟨#[]⟩, .string fl, .int .i64 nz] 37)
  have BX := (Below.refl w1.heap.size w1).alloc (Nat.le_refl _) (.cells #[.int .i64 0, .string pth, .string lk, .int .i64 nm, .int .i64 nu, .int .i64 ng, .int .i64 nt, .string us, .string gr, .string ⟨#[]⟩, .string fl, .int .i64 nz] 37)
  generalize w1.alloc (.cells #[.int .i64 0, .string pth, .string lk, .int .i64 nm, .int .i64 nu, .int .i64 ng, .int .i64 nt, .string us, .string gr, .string ⟨#[]⟩, .string fl, .int .i64 nz] 37) = w4 at *
  have OB' := Lib.hid OB
  have RO4 := Lib.hid ((BX.block _ (obj_lt RO1.out)).trans RO1.out)
  have B4 := Lib.hid (B1.out.trans (BX.mono B1.out.size))
  clear OB BX RO1 B1 HSn
  have zR4 := obj_lt RO4.out
  have KC : Hid (∀ w' : World, w'.heap[w1.heap.size]? = some (.cells #[.int .i64 0, .string pth, .string lk, .int .i64 nm, .int .i64 nu, .int .i64 ng, .int .i64 nt, .string us, .string gr, .string ⟨#[]⟩, .string fl, .int .i64 nz] 37 (0, 0)) → w'.cell? ⟨w1.heap.size, 0, none⟩ = some (.int .i64 0) ∧ w'.cell? ⟨w1.heap.size, 1, none⟩ = some (.string pth) ∧ w'.cell? ⟨w1.heap.size, 2, none⟩ = some (.string lk) ∧ w'.cell? ⟨w1.heap.size, 3, none⟩ = some (.int .i64 nm) ∧ w'.cell? ⟨w1.heap.size, 4, none⟩ = some (.int .i64 nu) ∧ w'.cell? ⟨w1.heap.size, 5, none⟩ = some (.int .i64 ng) ∧ w'.cell? ⟨w1.heap.size, 6, none⟩ = some (.int .i64 nt) ∧ w'.cell? ⟨w1.heap.size, 7, none⟩ = some (.string us) ∧ w'.cell? ⟨w1.heap.size, 8, none⟩ = some (.string gr) ∧ w'.cell? ⟨w1.heap.size, 9, none⟩ = some (.string ⟨#[]⟩) ∧ w'.cell? ⟨w1.heap.size, 10, none⟩ = some (.string fl) ∧ w'.cell? ⟨w1.heap.size, 11, none⟩ = some (.int .i64 nz)) := Lib.hid (fun w' h1 => by
    refine ⟨?_, ?_, ?_, ?_, ?_, ?_, ?_, ?_, ?_, ?_, ?_, ?_⟩
    all_goals (rw [cell_of_row _ _ _ _ _ _ h1]; rfl))
  have zRH : w.heap.size < w1.heap.size := zR1
  refine wp_region_u (by kernel_rfl) (fun w' => Below w.heap.size w w' ∧ w'.heap[w1.heap.size]? = some (.cells #[.int .i64 0, .string pth, .string lk, .int .i64 nm, .int .i64 nu, .int .i64 ng, .int .i64 nt, .string us, .string gr, .string ⟨#[]⟩, .string fl, .int .i64 nz] 37 (0, 0)) ∧ (w'.heap[w.heap.size]? = some (.cells zEnt 23 (0, 0)) ∨ w'.heap[w.heap.size]? = some (.cells #[.int .i64 0, .string pth, .string lk, .int .i64 nm, .int .i64 nu, .int .i64 ng, .int .i64 nt, .string us, .string gr, .string ⟨#[]⟩] 23 (0, 0)))) (fun x y => y.heap[w.heap.size]? = x.heap[w.heap.size]? ∨ y.heap[w.heap.size]? = some (.cells #[.int .i64 0, .string pth, .string lk, .int .i64 nm, .int .i64 nu, .int .i64 ng, .int .i64 nt, .string us, .string gr, .string ⟨#[]⟩] 23 (0, 0))) (fun d v _ => match d with | 13 => v = .pointer (some ⟨w1.heap.size, 0, none⟩) | 14 => v = .agg #[.int .i64 0, .string pth, .string lk, .int .i64 nm, .int .i64 nu, .int .i64 ng, .int .i64 nt, .string us, .string gr, .string ⟨#[]⟩] | 15 => v = .pointer (some ⟨w1.heap.size, 10, none⟩) | 16 => v = .string fl | 17 => v = .pointer (some ⟨w1.heap.size, 11, none⟩) | 18 => v = .int .i64 nz | 19 => v = .nilIface | 20 => v = .int .i64 0 | 3 => v = .string fl | 4 => v = .int .i64 nz | 5 => v = .int .i64 0 | _ => True) (fun o w' => o.dst = none → w'.heap[w.heap.size]? = some (.cells #[.int .i64 0, .string pth, .string lk, .int .i64 nm, .int .i64 nu, .int .i64 ng, .int .i64 nt, .string us, .string gr, .string ⟨#[]⟩] 23 (0, 0))) (by kernel_rfl) ⟨B4.out.drew, OB'.out, .inl RO4.out⟩ (fun _ _ _ _ _ _ h => h) (fun _ _ _ _ hs hu hd => Or.elim hs (fun h => h.trans (hu hd)) (fun h => h)) ?hops ?hend
  case hops =>
    simp only [List.forall_mem_cons]
    refine ⟨?o13, ?o14, ?o15, ?o16, ?o17, ?o18, ?o19, ?o20, ?os8, ?o3, ?o4, ?o5, fun _ h => by cases h⟩
    case o13 =>
      intro Q a w2 hC hV hI
      have e6 : a.eval (.tmp 6) = .pointer (some ⟨w1.heap.size, 0, none⟩) := (hI 6 (by simp [Op.operands]) (by kernel_rfl)).trans rfl
      have f6 : a.tmps.getD 6 undef = .pointer (some ⟨w1.heap.size, 0, none⟩) := e6
      have g6 : a.tmps[6]?.getD undef = .pointer (some ⟨w1.heap.size, 0, none⟩) := by rw [← Array.getD_eq_getD_getElem?]; exact e6
      refine opU_val (C := fun w' => Below w.heap.size w w' ∧ w'.heap[w1.heap.size]? = some (.cells #[.int .i64 0, .string pth, .string lk, .int .i64 nm, .int .i64 nu, .int .i64 ng, .int .i64 nt, .string us, .string gr, .string ⟨#[]⟩, .string fl, .int .i64 nz] 37 (0, 0)) ∧ (w'.heap[w.heap.size]? = some (.cells zEnt 23 (0, 0)) ∨ w'.heap[w.heap.size]? = some (.cells #[.int .i64 0, .string pth, .string lk, .int .i64 nm, .int .i64 nu, .int .i64 ng, .int .i64 nt, .string us, .string gr, .string ⟨#[]⟩] 23 (0, 0)))) (St := fun x y => y.heap[w.heap.size]? = x.heap[w.heap.size]? ∨ y.heap[w.heap.size]? = some (.cells #[.int .i64 0, .string pth, .string lk, .int .i64 nm, .int .i64 nu, .int .i64 ng, .int .i64 nt, .string us, .string gr, .string ⟨#[]⟩] 23 (0, 0))) (V := fun d v _ => match d with | 13 => v = .pointer (some ⟨w1.heap.size, 0, none⟩) | 14 => v = .agg #[.int .i64 0, .string pth, .string lk, .int .i64 nm, .int .i64 nu, .int .i64 ng, .int .i64 nt, .string us, .string gr, .string ⟨#[]⟩] | 15 => v = .pointer (some ⟨w1.heap.size, 10, none⟩) | 16 => v = .string fl | 17 => v = .pointer (some ⟨w1.heap.size, 11, none⟩) | 18 => v = .int .i64 nz | 19 => v = .nilIface | 20 => v = .int .i64 0 | 3 => v = .string fl | 4 => v = .int .i64 nz | 5 => v = .int .i64 0 | _ => True) (U := fun o w' => o.dst = none → w'.heap[w.heap.size]? = some (.cells #[.int .i64 0, .string pth, .string lk, .int .i64 nm, .int .i64 nu, .int .i64 ng, .int .i64 nt, .string us, .string gr, .string ⟨#[]⟩] 23 (0, 0))) (w' := w2) (.pointer (some ⟨w1.heap.size, 0, none⟩)) ?_ ?_ ?_ ?_ ?_
      · (clear hV hI hC; go_simp <;> (first | rfl | simp))
      · exact hC
      · exact Or.inl rfl
      · intro d hd; cases hd; rfl
      · intro h; cases h
    case o14 =>
      intro Q a w2 hC hV hI
      have e13 : a.eval (.tmp 13) = .pointer (some ⟨w1.heap.size, 0, none⟩) := hV 13 (by simp [Op.operands]) (by kernel_rfl)
      have f13 : a.tmps.getD 13 undef = .pointer (some ⟨w1.heap.size, 0, none⟩) := e13
      have g13 : a.tmps[13]?.getD undef = .pointer (some ⟨w1.heap.size, 0, none⟩) := by rw [← Array.getD_eq_getD_getElem?]; exact e13
      have hK := KC.out w2 hC.2.1
      refine opU_val (C := fun w' => Below w.heap.size w w' ∧ w'.heap[w1.heap.size]? = some (.cells #[.int .i64 0, .string pth, .string lk, .int .i64 nm, .int .i64 nu, .int .i64 ng, .int .i64 nt, .string us, .string gr, .string ⟨#[]⟩, .string fl, .int .i64 nz] 37 (0, 0)) ∧ (w'.heap[w.heap.size]? = some (.cells zEnt 23 (0, 0)) ∨ w'.heap[w.heap.size]? = some (.cells #[.int .i64 0, .string pth, .string lk, .int .i64 nm, .int .i64 nu, .int .i64 ng, .int .i64 nt, .string us, .string gr, .string ⟨#[]⟩] 23 (0, 0)))) (St := fun x y => y.heap[w.heap.size]? = x.heap[w.heap.size]? ∨ y.heap[w.heap.size]? = some (.cells #[.int .i64 0, .string pth, .string lk, .int .i64 nm, .int .i64 nu, .int .i64 ng, .int .i64 nt, .string us, .string gr, .string ⟨#[]⟩] 23 (0, 0))) (V := fun d v _ => match d with | 13 => v = .pointer (some ⟨w1.heap.size, 0, none⟩) | 14 => v = .agg #[.int .i64 0, .string pth, .string lk, .int .i64 nm, .int .i64 nu, .int .i64 ng, .int .i64 nt, .string us, .string gr, .string ⟨#[]⟩] | 15 => v = .pointer (some ⟨w1.heap.size, 10, none⟩) | 16 => v = .string fl | 17 => v = .pointer (some ⟨w1.heap.size, 11, none⟩) | 18 => v = .int .i64 nz | 19 => v = .nilIface | 20 => v = .int .i64 0 | 3 => v = .string fl | 4 => v = .int .i64 nz | 5 => v = .int .i64 0 | _ => True) (U := fun o w' => o.dst = none → w'.heap[w.heap.size]? = some (.cells #[.int .i64 0, .string pth, .string lk, .int .i64 nm, .int .i64 nu, .int .i64 ng, .int .i64 nt, .string us, .string gr, .string ⟨#[]⟩] 23 (0, 0))) (w' := w2) (.agg #[.int .i64 0, .string pth, .string lk, .int .i64 nm, .int .i64 nu, .int .i64 ng, .int .i64 nt, .string us, .string gr, .string ⟨#[]⟩]) ?_ ?_ ?_ ?_ ?_
      · (clear hV hI hC; go_simp <;> (first | rfl | simp))
      · exact hC
      · exact Or.inl rfl
      · intro d hd; cases hd; rfl
      · intro h; cases h
    case o15 =>
      intro Q a w2 hC hV hI
      have e6 : a.eval (.tmp 6) = .pointer (some ⟨w1.heap.size, 0, none⟩) := (hI 6 (by simp [Op.operands]) (by kernel_rfl)).trans rfl
      have f6 : a.tmps.getD 6 undef = .pointer (some ⟨w1.heap.size, 0, none⟩) := e6
      have g6 : a.tmps[6]?.getD undef = .pointer (some ⟨w1.heap.size, 0, none⟩) := by rw [← Array.getD_eq_getD_getElem?]; exact e6
      refine opU_val (C := fun w' => Below w.heap.size w w' ∧ w'.heap[w1.heap.size]? = some (.cells #[.int .i64 0, .string pth, .string lk, .int .i64 nm, .int .i64 nu, .int .i64 ng, .int .i64 nt, .string us, .string gr, .string ⟨#[]⟩, .string fl, .int .i64 nz] 37 (0, 0)) ∧ (w'.heap[w.heap.size]? = some (.cells zEnt 23 (0, 0)) ∨ w'.heap[w.heap.size]? = some (.cells #[.int .i64 0, .string pth, .string lk, .int .i64 nm, .int .i64 nu, .int .i64 ng, .int .i64 nt, .string us, .string gr, .string ⟨#[]⟩] 23 (0, 0)))) (St := fun x y => y.heap[w.heap.size]? = x.heap[w.heap.size]? ∨ y.heap[w.heap.size]? = some (.cells #[.int .i64 0, .string pth, .string lk, .int .i64 nm, .int .i64 nu, .int .i64 ng, .int .i64 nt, .string us, .string gr, .string ⟨#[]⟩] 23 (0, 0))) (V := fun d v _ => match d with | 13 => v = .pointer (some ⟨w1.heap.size, 0, none⟩) | 14 => v = .agg #[.int .i64 0, .string pth, .string lk, .int .i64 nm, .int .i64 nu, .int .i64 ng, .int .i64 nt, .string us, .string gr, .string ⟨#[]⟩] | 15 => v = .pointer (some ⟨w1.heap.size, 10, none⟩) | 16 => v = .string fl | 17 => v = .pointer (some ⟨w1.heap.size, 11, none⟩) | 18 => v = .int .i64 nz | 19 => v = .nilIface | 20 => v = .int .i64 0 | 3 => v = .string fl | 4 => v = .int .i64 nz | 5 => v = .int .i64 0 | _ => True) (U := fun o w' => o.dst = none → w'.heap[w.heap.size]? = some (.cells #[.int .i64 0, .string pth, .string lk, .int .i64 nm, .int .i64 nu, .int .i64 ng, .int .i64 nt, .string us, .string gr, .string ⟨#[]⟩] 23 (0, 0))) (w' := w2) (.pointer (some ⟨w1.heap.size, 10, none⟩)) ?_ ?_ ?_ ?_ ?_
      · (clear hV hI hC; go_simp <;> (first | rfl | simp))
      · exact hC
      · exact Or.inl rfl
      · intro d hd; cases hd; rfl
      · intro h; cases h
    case o16 =>
      intro Q a w2 hC hV hI
      have e15 : a.eval (.tmp 15) = .pointer (some ⟨w1.heap.size, 10, none⟩) := hV 15 (by simp [Op.operands]) (by kernel_rfl)
      have f15 : a.tmps.getD 15 undef = .pointer (some ⟨w1.heap.size, 10, none⟩) := e15
      have g15 : a.tmps[15]?.getD undef = .pointer (some ⟨w1.heap.size, 10, none⟩) := by rw [← Array.getD_eq_getD_getElem?]; exact e15
      have hK := KC.out w2 hC.2.1
      refine opU_val (C := fun w' => Below w.heap.size w w' ∧ w'.heap[w1.heap.size]? = some (.cells #[.int .i64 0, .string pth, .string lk, .int .i64 nm, .int .i64 nu, .int .i64 ng, .int .i64 nt, .string us, .string gr, .string ⟨#[]⟩, .string fl, .int .i64 nz] 37 (0, 0)) ∧ (w'.heap[w.heap.size]? = some (.cells zEnt 23 (0, 0)) ∨ w'.heap[w.heap.size]? = some (.cells #[.int .i64 0, .string pth, .string lk, .int .i64 nm, .int .i64 nu, .int .i64 ng, .int .i64 nt, .string us, .string gr, .string ⟨#[]⟩] 23 (0, 0)))) (St := fun x y => y.heap[w.heap.size]? = x.heap[w.heap.size]? ∨ y.heap[w.heap.size]? = some (.cells #[.int .i64 0, .string pth, .string lk, .int .i64 nm, .int .i64 nu, .int .i64 ng, .int .i64 nt, .string us, .string gr, .string ⟨#[]⟩] 23 (0, 0))) (V := fun d v _ => match d with | 13 => v = .pointer (some ⟨w1.heap.size, 0, none⟩) | 14 => v = .agg #[.int .i64 0, .string pth, .string lk, .int .i64 nm, .int .i64 nu, .int .i64 ng, .int .i64 nt, .string us, .string gr, .string ⟨#[]⟩] | 15 => v = .pointer (some ⟨w1.heap.size, 10, none⟩) | 16 => v = .string fl | 17 => v = .pointer (some ⟨w1.heap.size, 11, none⟩) | 18 => v = .int .i64 nz | 19 => v = .nilIface | 20 => v = .int .i64 0 | 3 => v = .string fl | 4 => v = .int .i64 nz | 5 => v = .int .i64 0 | _ => True) (U := fun o w' => o.dst = none → w'.heap[w.heap.size]? = some (.cells #[.int .i64 0, .string pth, .string lk, .int .i64 nm, .int .i64 nu, .int .i64 ng, .int .i64 nt, .string us, .string gr, .string ⟨#[]⟩] 23 (0, 0))) (w' := w2) (.string fl) ?_ ?_ ?_ ?_ ?_
      · (clear hV hI hC; go_simp <;> (first | rfl | simp))
      · exact hC
      · exact Or.inl rfl
      · intro d hd; cases hd; rfl
      · intro h; cases h
    case o17 =>
      intro Q a w2 hC hV hI
      have e6 : a.eval (.tmp 6) = .pointer (some ⟨w1.heap.size, 0, none⟩) := (hI 6 (by simp [Op.operands]) (by kernel_rfl)).trans rfl
      have f6 : a.tmps.getD 6 undef = .pointer (some ⟨w1.heap.size, 0, none⟩) := e6
      have g6 : a.tmps[6]?.getD undef = .pointer (some ⟨w1.heap.size, 0, none⟩) := by rw [← Array.getD_eq_getD_getElem?]; exact e6
      refine opU_val (C := fun w' => Below w.heap.size w w' ∧ w'.heap[w1.heap.size]? = some (.cells #[.int .i64 0, .string pth, .string lk, .int .i64 nm, .int .i64 nu, .int .i64 ng, .int .i64 nt, .string us, .string gr, .string ⟨#[]⟩, .string fl, .int .i64 nz] 37 (0, 0)) ∧ (w'.heap[w.heap.size]? = some (.cells zEnt 23 (0, 0)) ∨ w'.heap[w.heap.size]? = some (.cells #[.int .i64 0, .string pth, .string lk, .int .i64 nm, .int .i64 nu, .int .i64 ng, .int .i64 nt, .string us, .string gr, .string ⟨#[]⟩] 23 (0, 0)))) (St := fun x y => y.heap[w.heap.size]? = x.heap[w.heap.size]? ∨ y.heap[w.heap.size]? = some (.cells #[.int .i64 0, .string pth, .string lk, .int .i64 nm, .int .i64 nu, .int .i64 ng, .int .i64 nt, .string us, .string gr, .string ⟨#[]⟩] 23 (0, 0))) (V := fun d v _ => match d with | 13 => v = .pointer (some ⟨w1.heap.size, 0, none⟩) | 14 => v = .agg #[.int .i64 0, .string pth, .string lk, .int .i64 nm, .int .i64 nu, .int .i64 ng, .int .i64 nt, .string us, .string gr, .string ⟨#[]⟩] | 15 => v = .pointer (some ⟨w1.heap.size, 10, none⟩) | 16 => v = .string fl | 17 => v = .pointer (some ⟨w1.heap.size, 11, none⟩) | 18 => v = .int .i64 nz | 19 => v = .nilIface | 20 => v = .int .i64 0 | 3 => v = .string fl | 4 => v = .int .i64 nz | 5 => v = .int .i64 0 | _ => True) (U := fun o w' => o.dst = none → w'.heap[w.heap.size]? = some (.cells #[.int .i64 0, .string pth, .string lk, .int .i64 nm, .int .i64 nu, .int .i64 ng, .int .i64 nt, .string us, .string gr, .string ⟨#[]⟩] 23 (0, 0))) (w' := w2) (.pointer (some ⟨w1.heap.size, 11, none⟩)) ?_ ?_ ?_ ?_ ?_
      · (clear hV hI hC; go_simp <;> (first | rfl | simp))
      · exact hC
      · exact Or.inl rfl
      · intro d hd; cases hd; rfl
      · intro h; cases h
    case o18 =>
      intro Q a w2 hC hV hI
      have e17 : a.eval (.tmp 17) = .pointer (some ⟨w1.heap.size, 11, none⟩) := hV 17 (by simp [Op.operands]) (by kernel_rfl)
      have f17 : a.tmps.getD 17 undef = .pointer (some ⟨w1.heap.size, 11, none⟩) := e17
      have g17 : a.tmps[17]?.getD undef = .pointer (some ⟨w1.heap.size, 11, none⟩) := by rw [← Array.getD_eq_getD_getElem?]; exact e17
      have hK := KC.out w2 hC.2.1
      refine opU_val (C := fun w' => Below w.heap.size w w' ∧ w'.heap[w1.heap.size]? = some (.cells #[.int .i64 0, .string pth, .string lk, .int .i64 nm, .int .i64 nu, .int .i64 ng, .int .i64 nt, .string us, .string gr, .string ⟨#[]⟩, .string fl, .int .i64 nz] 37 (0, 0)) ∧ (w'.heap[w.heap.size]? = some (.cells zEnt 23 (0, 0)) ∨ w'.heap[w.heap.size]? = some (.cells #[.int .i64 0, .string pth, .string lk, .int .i64 nm, .int .i64 nu, .int .i64 ng, .int .i64 nt, .string us, .string gr, .string ⟨#[]⟩] 23 (0, 0)))) (St := fun x y => y.heap[w.heap.size]? = x.heap[w.heap.size]? ∨ y.heap[w.heap.size]? = some (.cells #[.int .i64 0, .string pth, .string lk, .int .i64 nm, .int .i64 nu, .int .i64 ng, .int .i64 nt, .string us, .string gr, .string ⟨#[]⟩] 23 (0, 0))) (V := fun d v _ => match d with | 13 => v = .pointer (some ⟨w1.heap.size, 0, none⟩) | 14 => v = .agg #[.int .i64 0, .string pth, .string lk, .int .i64 nm, .int .i64 nu, .int .i64 ng, .int .i64 nt, .string us, .string gr, .string ⟨#[]⟩] | 15 => v = .pointer (some ⟨w1.heap.size, 10, none⟩) | 16 => v = .string fl | 17 => v = .pointer (some ⟨w1.heap.size, 11, none⟩) | 18 => v = .int .i64 nz | 19 => v = .nilIface | 20 => v = .int .i64 0 | 3 => v = .string fl | 4 => v = .int .i64 nz | 5 => v = .int .i64 0 | _ => True) (U := fun o w' => o.dst = none → w'.heap[w.heap.size]? = some (.cells #[.int .i64 0, .string pth, .string lk, .int .i64 nm, .int .i64 nu, .int .i64 ng, .int .i64 nt, .string us, .string gr, .string ⟨#[]⟩] 23 (0, 0))) (w' := w2) (.int .i64 nz) ?_ ?_ ?_ ?_ ?_
      · (clear hV hI hC; go_simp <;> (first | rfl | simp))
      · exact hC
      · exact Or.inl rfl
      · intro d hd; cases hd; rfl
      · intro h; cases h
    case o19 =>
      intro Q a w2 hC hV hI
      have e7 : a.eval (.tmp 7) = .nilIface := (hI 7 (by simp [Op.operands]) (by kernel_rfl)).trans rfl
      have f7 : a.tmps.getD 7 undef = .nilIface := e7
      have g7 : a.tmps[7]?.getD undef = .nilIface := by rw [← Array.getD_eq_getD_getElem?]; exact e7
      refine opU_val (C := fun w' => Below w.heap.size w w' ∧ w'.heap[w1.heap.size]? = some (.cells #[.int .i64 0, .string pth, .string lk, .int .i64 nm, .int .i64 nu, .int .i64 ng, .int .i64 nt, .string us, .string gr, .string ⟨#[]⟩, .string fl, .int .i64 nz] 37 (0, 0)) ∧ (w'.heap[w.heap.size]? = some (.cells zEnt 23 (0, 0)) ∨ w'.heap[w.heap.size]? = some (.cells #[.int .i64 0, .string pth, .string lk, .int .i64 nm, .int .i64 nu, .int .i64 ng, .int .i64 nt, .string us, .string gr, .string ⟨#[]⟩] 23 (0, 0)))) (St := fun x y => y.heap[w.heap.size]? = x.heap[w.heap.size]? ∨ y.heap[w.heap.size]? = some (.cells #[.int .i64 0, .string pth, .string lk, .int .i64 nm, .int .i64 nu, .int .i64 ng, .int .i64 nt, .string us, .string gr, .string ⟨#[]⟩] 23 (0, 0))) (V := fun d v _ => match d with | 13 => v = .pointer (some ⟨w1.heap.size, 0, none⟩) | 14 => v = .agg #[.int .i64 0, .string pth, .string lk, .int .i64 nm, .int .i64 nu, .int .i64 ng, .int .i64 nt, .string us, .string gr, .string ⟨#[]⟩] | 15 => v = .pointer (some ⟨w1.heap.size, 10, none⟩) | 16 => v = .string fl | 17 => v = .pointer (some ⟨w1.heap.size, 11, none⟩) | 18 => v = .int .i64 nz | 19 => v = .nilIface | 20 => v = .int .i64 0 | 3 => v = .string fl | 4 => v = .int .i64 nz | 5 => v = .int .i64 0 | _ => True) (U := fun o w' => o.dst = none → w'.heap[w.heap.size]? = some (.cells #[.int .i64 0, .string pth, .string lk, .int .i64 nm, .int .i64 nu, .int .i64 ng, .int .i64 nt, .string us, .string gr, .string ⟨#[]⟩] 23 (0, 0))) (w' := w2) (.nilIface) ?_ ?_ ?_ ?_ ?_
      · (clear hV hI hC; go_simp <;> (first | rfl | simp))
      · exact hC
      · exact Or.inl rfl
      · intro d hd; cases hd; rfl
      · intro h; cases h
    case o20 =>
      intro Q a w2 hC hV hI
      have e19 : a.eval (.tmp 19) = .nilIface := hV 19 (by simp [Op.operands, Call.operands]) (by kernel_rfl)
      have f19 : a.tmps.getD 19 undef = .nilIface := e19
      have g19 : a.tmps[19]?.getD undef = .nilIface := by rw [← Array.getD_eq_getD_getElem?]; exact e19
      refine opU_call (C := fun w' => Below w.heap.size w w' ∧ w'.heap[w1.heap.size]? = some (.cells #[.int .i64 0, .string pth, .string lk, .int .i64 nm, .int .i64 nu, .int .i64 ng, .int .i64 nt, .string us, .string gr, .string ⟨#[]⟩, .string fl, .int .i64 nz] 37 (0, 0)) ∧ (w'.heap[w.heap.size]? = some (.cells zEnt 23 (0, 0)) ∨ w'.heap[w.heap.size]? = some (.cells #[.int .i64 0, .string pth, .string lk, .int .i64 nm, .int .i64 nu, .int .i64 ng, .int .i64 nt, .string us, .string gr, .string ⟨#[]⟩] 23 (0, 0)))) (St := fun x y => y.heap[w.heap.size]? = x.heap[w.heap.size]? ∨ y.heap[w.heap.size]? = some (.cells #[.int .i64 0, .string pth, .string lk, .int .i64 nm, .int .i64 nu, .int .i64 ng, .int .i64 nt, .string us, .string gr, .string ⟨#[]⟩] 23 (0, 0))) (V := fun d v _ => match d with | 13 => v = .pointer (some ⟨w1.heap.size, 0, none⟩) | 14 => v = .agg #[.int .i64 0, .string pth, .string lk, .int .i64 nm, .int .i64 nu, .int .i64 ng, .int .i64 nt, .string us, .string gr, .string ⟨#[]⟩] | 15 => v = .pointer (some ⟨w1.heap.size, 10, none⟩) | 16 => v = .string fl | 17 => v = .pointer (some ⟨w1.heap.size, 11, none⟩) | 18 => v = .int .i64 nz | 19 => v = .nilIface | 20 => v = .int .i64 0 | 3 => v = .string fl | 4 => v = .int .i64 nz | 5 => v = .int .i64 0 | _ => True) (U := fun o w' => o.dst = none → w'.heap[w.heap.size]? = some (.cells #[.int .i64 0, .string pth, .string lk, .int .i64 nm, .int .i64 nu, .int .i64 ng, .int .i64 nt, .string us, .string gr, .string ⟨#[]⟩] 23 (0, 0))) (f := 26) (args := #[.nilIface]) (R := fun v y => v = .int .i64 0 ∧ Below w2.heap.size w2 y) ?_ ((HCo.out w2).mono ?_) ?_
      · (clear hV hI hC; go_simp <;> (first | rfl | simp))
      · rintro e y ⟨rfl, hb⟩; exact ⟨_, rfl, rfl, hb⟩
      · rintro v y ⟨rfl, hb⟩; exact ⟨⟨hC.1.trans (hb.mono hC.1.size), (hb.block _ (obj_lt hC.2.1)).trans hC.2.1, hC.2.2.imp (fun h => (hb.block _ (obj_lt h)).trans h) (fun h => (hb.block _ (obj_lt h)).trans h)⟩, .inl (hb.block _ (Nat.lt_trans zRH (obj_lt hC.2.1))), (by intro d hd; cases hd; rfl), fun h => (by cases h)⟩
    case os8 =>
      intro Q a w2 hC hV hI
      have e2 : a.eval (.tmp 2) = .pointer (some ⟨w.heap.size, 0, none⟩) := (hI 2 (by simp [Op.operands]) (by kernel_rfl)).trans rfl
      have f2 : a.tmps.getD 2 undef = .pointer (some ⟨w.heap.size, 0, none⟩) := e2
      have g2 : a.tmps[2]?.getD undef = .pointer (some ⟨w.heap.size, 0, none⟩) := by rw [← Array.getD_eq_getD_getElem?]; exact e2
      have e14 : a.eval (.tmp 14) = .agg #[.int .i64 0, .string pth, .string lk, .int .i64 nm, .int .i64 nu, .int .i64 ng, .int .i64 nt, .string us, .string gr, .string ⟨#[]⟩] := hV 14 (by simp [Op.operands]) (by kernel_rfl)
      have f14 : a.tmps.getD 14 undef = .agg #[.int .i64 0, .string pth, .string lk, .int .i64 nm, .int .i64 nu, .int .i64 ng, .int .i64 nt, .string us, .string gr, .string ⟨#[]⟩] := e14
      have g14 : a.tmps[14]?.getD undef = .agg #[.int .i64 0, .string pth, .string lk, .int .i64 nm, .int .i64 nu, .int .i64 ng, .int .i64 nt, .string us, .string gr, .string ⟨#[]⟩] := by rw [← Array.getD_eq_getD_getElem?]; exact e14
      have hS : ∀ cs : Array Value, cs.size = 10 → w2.heap[w.heap.size]? = some (.cells cs 23 (0, 0)) → _ := fun cs hc hR => run_storeVar_row (P := Tryz.prog) w2 w.heap.size 23 23 cs #[.int .i64 0, .string pth, .string lk, .int .i64 nm, .int .i64 nu, .int .i64 ng, .int .i64 nt, .string us, .string gr, .string ⟨#[]⟩] hR (by rw [Tryz.sizeEnt]; rfl) hc (by simp [Value.oneCell'])
      have hR2 : (w2.setRow w.heap.size #[.int .i64 0, .string pth, .string lk, .int .i64 nm, .int .i64 nu, .int .i64 ng, .int .i64 nt, .string us, .string gr, .string ⟨#[]⟩]).heap[w.heap.size]? = some (.cells #[.int .i64 0, .string pth, .string lk, .int .i64 nm, .int .i64 nu, .int .i64 ng, .int .i64 nt, .string us, .string gr, .string ⟨#[]⟩] 23 (0, 0)) := hC.2.2.elim (fun h => setRow_heap _ _ _ _ _ _ h) (fun h => setRow_heap _ _ _ _ _ _ h)
      refine opU_store (C := fun w' => Below w.heap.size w w' ∧ w'.heap[w1.heap.size]? = some (.cells #[.int .i64 0, .string pth, .string lk, .int .i64 nm, .int .i64 nu, .int .i64 ng, .int .i64 nt, .string us, .string gr, .string ⟨#[]⟩, .string fl, .int .i64 nz] 37 (0, 0)) ∧ (w'.heap[w.heap.size]? = some (.cells zEnt 23 (0, 0)) ∨ w'.heap[w.heap.size]? = some (.cells #[.int .i64 0, .string pth, .string lk, .int .i64 nm, .int .i64 nu, .int .i64 ng, .int .i64 nt, .string us, .string gr, .string ⟨#[]⟩] 23 (0, 0)))) (St := fun x y => y.heap[w.heap.size]? = x.heap[w.heap.size]? ∨ y.heap[w.heap.size]? = some (.cells #[.int .i64 0, .string pth, .string lk, .int .i64 nm, .int .i64 nu, .int .i64 ng, .int .i64 nt, .string us, .string gr, .string ⟨#[]⟩] 23 (0, 0))) (V := fun d v _ => match d with | 13 => v = .pointer (some ⟨w1.heap.size, 0, none⟩) | 14 => v = .agg #[.int .i64 0, .string pth, .string lk, .int .i64 nm, .int .i64 nu, .int .i64 ng, .int .i64 nt, .string us, .string gr, .string ⟨#[]⟩] | 15 => v = .pointer (some ⟨w1.heap.size, 10, none⟩) | 16 => v = .string fl | 17 => v = .pointer (some ⟨w1.heap.size, 11, none⟩) | 18 => v = .int .i64 nz | 19 => v = .nilIface | 20 => v = .int .i64 0 | 3 => v = .string fl | 4 => v = .int .i64 nz | 5 => v = .int .i64 0 | _ => True) (U := fun o w' => o.dst = none → w'.heap[w.heap.size]? = some (.cells #[.int .i64 0, .string pth, .string lk, .int .i64 nm, .int .i64 nu, .int .i64 ng, .int .i64 nt, .string us, .string gr, .string ⟨#[]⟩] 23 (0, 0))) 23 _ _ rfl rfl ⟨w.heap.size, 0, none⟩ e2 e14 (hC.2.2.elim (fun h => hS _ rfl h) (fun h => hS _ rfl h)) ?_ ?_ ?_
      · exact ⟨hC.1.trans (below_set (Nat.le_refl _) _), by rw [setRow_other _ _ _ _ (by omega)]; exact hC.2.1, Or.inr hR2⟩
      · exact Or.inr hR2
      · intro _; exact hR2
    case o3 =>
      intro Q a w2 hC hV hI
      have e16 : a.eval (.tmp 16) = .string fl := hV 16 (by simp [Op.operands]) (by kernel_rfl)
      have f16 : a.tmps.getD 16 undef = .string fl := e16
      have g16 : a.tmps[16]?.getD undef = .string fl := by rw [← Array.getD_eq_getD_getElem?]; exact e16
      refine opU_val (C := fun w' => Below w.heap.size w w' ∧ w'.heap[w1.heap.size]? = some (.cells #[.int .i64 0, .string pth, .string lk, .int .i64 nm, .int .i64 nu, .int .i64 ng, .int .i64 nt, .string us, .string gr, .string ⟨#[]⟩, .string fl, .int .i64 nz] 37 (0, 0)) ∧ (w'.heap[w.heap.size]? = some (.cells zEnt 23 (0, 0)) ∨ w'.heap[w.heap.size]? = some (.cells #[.int .i64 0, .string pth, .string lk, .int .i64 nm, .int .i64 nu, .int .i64 ng, .int .i64 nt, .string us, .string gr, .string ⟨#[]⟩] 23 (0, 0)))) (St := fun x y => y.heap[w.heap.size]? = x.heap[w.heap.size]? ∨ y.heap[w.heap.size]? = some (.cells #[.int .i64 0, .string pth, .string lk, .int .i64 nm, .int .i64 nu, .int .i64 ng, .int .i64 nt, .string us, .string gr, .string ⟨#[]⟩] 23 (0, 0))) (V := fun d v _ => match d with | 13 => v = .pointer (some ⟨w1.heap.size, 0, none⟩) | 14 => v = .agg #[.int .i64 0, .string pth, .string lk, .int .i64 nm, .int .i64 nu, .int .i64 ng, .int .i64 nt, .string us, .string gr, .string ⟨#[]⟩] | 15 => v = .pointer (some ⟨w1.heap.size, 10, none⟩) | 16 => v = .string fl | 17 => v = .pointer (some ⟨w1.heap.size, 11, none⟩) | 18 => v = .int .i64 nz | 19 => v = .nilIface | 20 => v = .int .i64 0 | 3 => v = .string fl | 4 => v = .int .i64 nz | 5 => v = .int .i64 0 | _ => True) (U := fun o w' => o.dst = none → w'.heap[w.heap.size]? = some (.cells #[.int .i64 0, .string pth, .string lk, .int .i64 nm, .int .i64 nu, .int .i64 ng, .int .i64 nt, .string us, .string gr, .string ⟨#[]⟩] 23 (0, 0))) (w' := w2) (.string fl) ?_ ?_ ?_ ?_ ?_
      · (clear hV hI hC; go_simp <;> (first | rfl | simp))
      · exact hC
      · exact Or.inl rfl
      · intro d hd; cases hd; rfl
      · intro h; cases h
    case o4 =>
      intro Q a w2 hC hV hI
      have e18 : a.eval (.tmp 18) = .int .i64 nz := hV 18 (by simp [Op.operands]) (by kernel_rfl)
      have f18 : a.tmps.getD 18 undef = .int .i64 nz := e18
      have g18 : a.tmps[18]?.getD undef = .int .i64 nz := by rw [← Array.getD_eq_getD_getElem?]; exact e18
      refine opU_val (C := fun w' => Below w.heap.size w w' ∧ w'.heap[w1.heap.size]? = some (.cells #[.int .i64 0, .string pth, .string lk, .int .i64 nm, .int .i64 nu, .int .i64 ng, .int .i64 nt, .string us, .string gr, .string ⟨#[]⟩, .string fl, .int .i64 nz] 37 (0, 0)) ∧ (w'.heap[w.heap.size]? = some (.cells zEnt 23 (0, 0)) ∨ w'.heap[w.heap.size]? = some (.cells #[.int .i64 0, .string pth, .string lk, .int .i64 nm, .int .i64 nu, .int .i64 ng, .int .i64 nt, .string us, .string gr, .string ⟨#[]⟩] 23 (0, 0)))) (St := fun x y => y.heap[w.heap.size]? = x.heap[w.heap.size]? ∨ y.heap[w.heap.size]? = some (.cells #[.int .i64 0, .string pth, .string lk, .int .i64 nm, .int .i64 nu, .int .i64 ng, .int .i64 nt, .string us, .string gr, .string ⟨#[]⟩] 23 (0, 0))) (V := fun d v _ => match d with | 13 => v = .pointer (some ⟨w1.heap.size, 0, none⟩) | 14 => v = .agg #[.int .i64 0, .string pth, .string lk, .int .i64 nm, .int .i64 nu, .int .i64 ng, .int .i64 nt, .string us, .string gr, .string ⟨#[]⟩] | 15 => v = .pointer (some ⟨w1.heap.size, 10, none⟩) | 16 => v = .string fl | 17 => v = .pointer (some ⟨w1.heap.size, 11, none⟩) | 18 => v = .int .i64 nz | 19 => v = .nilIface | 20 => v = .int .i64 0 | 3 => v = .string fl | 4 => v = .int .i64 nz | 5 => v = .int .i64 0 | _ => True) (U := fun o w' => o.dst = none → w'.heap[w.heap.size]? = some (.cells #[.int .i64 0, .string pth, .string lk, .int .i64 nm, .int .i64 nu, .int .i64 ng, .int .i64 nt, .string us, .string gr, .string ⟨#[]⟩] 23 (0, 0))) (w' := w2) (.int .i64 nz) ?_ ?_ ?_ ?_ ?_
      · (clear hV hI hC; go_simp <;> (first | rfl | simp))
      · exact hC
      · exact Or.inl rfl
      · intro d hd; cases hd; rfl
      · intro h; cases h
    case o5 =>
      intro Q a w2 hC hV hI
      have e20 : a.eval (.tmp 20) = .int .i64 0 := hV 20 (by simp [Op.operands]) (by kernel_rfl)
      have f20 : a.tmps.getD 20 undef = .int .i64 0 := e20
      have g20 : a.tmps[20]?.getD undef = .int .i64 0 := by rw [← Array.getD_eq_getD_getElem?]; exact e20
      refine opU_val (C := fun w' => Below w.heap.size w w' ∧ w'.heap[w1.heap.size]? = some (.cells #[.int .i64 0, .string pth, .string lk, .int .i64 nm, .int .i64 nu, .int .i64 ng, .int .i64 nt, .string us, .string gr, .string ⟨#[]⟩, .string fl, .int .i64 nz] 37 (0, 0)) ∧ (w'.heap[w.heap.size]? = some (.cells zEnt 23 (0, 0)) ∨ w'.heap[w.heap.size]? = some (.cells #[.int .i64 0, .string pth, .string lk, .int .i64 nm, .int .i64 nu, .int .i64 ng, .int .i64 nt, .string us, .string gr, .string ⟨#[]⟩] 23 (0, 0)))) (St := fun x y => y.heap[w.heap.size]? = x.heap[w.heap.size]? ∨ y.heap[w.heap.size]? = some (.cells #[.int .i64 0, .string pth, .string lk, .int .i64 nm, .int .i64 nu, .int .i64 ng, .int .i64 nt, .string us, .string gr, .string ⟨#[]⟩] 23 (0, 0))) (V := fun d v _ => match d with | 13 => v = .pointer (some ⟨w1.heap.size, 0, none⟩) | 14 => v = .agg #[.int .i64 0, .string pth, .string lk, .int .i64 nm, .int .i64 nu, .int .i64 ng, .int .i64 nt, .string us, .string gr, .string ⟨#[]⟩] | 15 => v = .pointer (some ⟨w1.heap.size, 10, none⟩) | 16 => v = .string fl | 17 => v = .pointer (some ⟨w1.heap.size, 11, none⟩) | 18 => v = .int .i64 nz | 19 => v = .nilIface | 20 => v = .int .i64 0 | 3 => v = .string fl | 4 => v = .int .i64 nz | 5 => v = .int .i64 0 | _ => True) (U := fun o w' => o.dst = none → w'.heap[w.heap.size]? = some (.cells #[.int .i64 0, .string pth, .string lk, .int .i64 nm, .int .i64 nu, .int .i64 ng, .int .i64 nt, .string us, .string gr, .string ⟨#[]⟩] 23 (0, 0))) (w' := w2) (.int .i64 0) ?_ ?_ ?_ ?_ ?_
      · (clear hV hI hC; go_simp <;> (first | rfl | simp))
      · exact hC
      · exact Or.inl rfl
      · intro d hd; cases hd; rfl
      · intro h; cases h
  case hend =>
    intro f w5 hC hall huall
    simp only [List.forall_mem_cons] at hall
    obtain ⟨h13, h14, h15, h16, h17, h18, h19, h20, _, h3, h4, h5, _⟩ := hall
    simp only [List.forall_mem_cons] at huall
    obtain ⟨_, _, _, _, _, _, _, _, hus, _, _, _, _⟩ := huall
    replace h13 : f 13 = .pointer (some ⟨w1.heap.size, 0, none⟩) := h13 13 rfl
    replace h14 : f 14 = .agg #[.int .i64 0, .string pth, .string lk, .int .i64 nm, .int .i64 nu, .int .i64 ng, .int .i64 nt, .string us, .string gr, .string ⟨#[]⟩] := h14 14 rfl
    replace h15 : f 15 = .pointer (some ⟨w1.heap.size, 10, none⟩) := h15 15 rfl
    replace h16 : f 16 = .string fl := h16 16 rfl
    replace h17 : f 17 = .pointer (some ⟨w1.heap.size, 11, none⟩) := h17 17 rfl
    replace h18 : f 18 = .int .i64 nz := h18 18 rfl
    replace h19 : f 19 = .nilIface := h19 19 rfl
    replace h20 : f 20 = .int .i64 0 := h20 20 rfl
    replace h3 : f 3 = .string fl := h3 3 rfl
    replace h4 : f 4 = .int .i64 nz := h4 4 rfl
    replace h5 : f 5 = .int .i64 0 := h5 5 rfl
    simp only [putAll, Act.put, List.setIfInBounds_toArray, List.set_cons_succ, List.set_cons_zero, h13, h14, h15, h16, h17, h18, h19, h20, h3, h4, h5]
    clear h13 h14 h15 h16 h17 h18 h19 h20 h3 h4 h5
    have R5 := Lib.hid (hus trivial)
    have B5 := Lib.hid hC.1
    clear hC hus
    go_wp2
    refine bodyPost_ret (results_cell4 rfl _ _ w.heap.size _ #[.int .i64 0, .string pth, .string lk, .int .i64 nm, .int .i64 nu, .int .i64 ng, .int .i64 nt, .string us, .string gr, .string ⟨#[]⟩] (0, 0) _ rfl R5.out Tryz.underlying23 rfl (by rw [Tryz.sizeEnt]; rfl)) rfl ?_
    rw [HE.out]
    exact ⟨rfl, B5.out⟩
theorem getLong_impl (s : ByteArray) (w : World) (hs : s.size ≤ 1048576) (hT : Tabs w) (hF : FW w) (hH : Handle w) :
    Calls Tryz.prog 12 #[.string s] w fun e w' => e = .returned (getLV s) ∧ Below w.heap.size w w' := by
  by_cases h : hdcL s = 0
  · exact getLong_good s w hs h hT hF hH
  · exact getLong_bad s w hs h hT hF hH
end Go.Proofs.YtgpgkgahbkmdiabGreatDoor

/- The two ways to read a header with long names are one: plain lists only. -/
namespace Go.Proofs.YtgpgkgahbkmdiabGreatDoor
open Go.ChangeShapes Go.WideShapes Go.ChangeAt Go.RowKit

theorem whole_lOf (s : ByteArray) : (⟨(lOf s).toArray⟩ : ByteArray) = s.extract 0 512 := by
  apply ba_ext
  simp [lOf, ByteArray.data_extract]
theorem fnum_128 {f : ByteArray} (hs : 2 ≤ f.size) (h : f.data.toList.head? = some 128) : fnumOk f = false := by
  obtain ⟨t, ht⟩ : ∃ t, f.data.toList = 128 :: t := by
    cases hl : f.data.toList with
    | nil => rw [hl] at h; cases h
    | cons a t => rw [hl] at h; simp at h; exact ⟨t, by rw [h]⟩
  obtain ⟨m, hm⟩ : ∃ m, f.size - 1 = m + 1 := ⟨f.size - 2, by omega⟩
  have hv : vals 8 0 (128 :: t.take m) = -1 := by
    refine vals_none ?_
    exact step_bad (dig_bad (by decide) (by decide)) (.inl (by omega))
  rw [fnumOk, hm, ht, List.take_succ_cons]
  have ho : (getOctv (128 :: t.take m)).2 = false := by
    unfold getOctv
    rw [hv, if_neg (by omega)]
  rw [ho, Bool.false_and]
theorem big_head {f : ByteArray} (h : ¬ f.data.toList.head? = some 128) : (bigv f).2 = false := by
  rw [bigv, if_neg (fun k => h k.2.2.1)]
theorem put_has {n : Int} {k : Nat} (h0 : 0 ≤ n) (hk : 1 ≤ k) (hk2 : k ≤ 17) : (putOctv n k).2 = decide (n.toNat < 8 ^ k) := by
  by_cases h : n.toNat < 8 ^ k
  · rw [(oct_fits h0 hk hk2 h).1, decide_eq_true h]
  · cases hp : (putOctv n k).2 with
    | false => rw [decide_eq_false h]
    | true =>
      have := (putOct_true hp).2
      rw [Int.toNat_natCast] at this
      exact absurd this h
/-- Whether a number of a field stands in binary. -/
def inBin (f : ByteArray) (k : Nat) : Bool := (bigv f).2 && !(putOctv (bigv f).1 (k : Nat)).2
theorem gNum_same {f : ByteArray} {k : Nat} {most : Int} (hs : 2 ≤ f.size) (hk : 1 ≤ k) (hk2 : k ≤ 17) (hm : most + 1 = (8 : Int) ^ k) :
    (gNum f most).2 = (inBin f k || fnumOk f) ∧ ((gNum f most).2 = true → (gNum f most).1 = if inBin f k = true then (bigv f).1 else fnumv f) := by
  have hp : (((8 : Nat) ^ k : Nat) : Int) = (8 : Int) ^ k := by push_cast; rfl
  by_cases hq : f.data.toList.head? = some 128
  · have hb := bigv_bd f
    have hd : (!(putOctv (bigv f).1 (k : Nat)).2) = decide (most < (bigv f).1) := by
      rw [put_has hb.1 hk hk2]
      by_cases h : (bigv f).1.toNat < 8 ^ k
      · rw [decide_eq_true h, decide_eq_false (by omega)]; rfl
      · rw [decide_eq_false h, decide_eq_true (by omega)]; rfl
    rw [gNum, if_pos hq, inBin, hd, fnum_128 hs hq, Bool.or_false]
    exact ⟨rfl, fun h => by rw [if_pos h]⟩
  · rw [gNum, if_neg hq, inBin, big_head hq, Bool.false_and, Bool.false_or]
    exact ⟨rfl, fun _ => rfl⟩
theorem exts {s : ByteArray} : s.extract 100 108 = fW (lOf s) 1 ∧ s.extract 108 116 = fW (lOf s) 2 ∧ s.extract 116 124 = fW (lOf s) 3 ∧ s.extract 124 136 = fW (lOf s) 4 ∧ s.extract 136 148 = fW (lOf s) 5 :=
  ⟨(fW_ext s 1 8 (by omega) rfl).symm, (fW_ext s 2 8 (by omega) rfl).symm, (fW_ext s 3 8 (by omega) rfl).symm, (fW_ext s 4 12 (by omega) rfl).symm, (fW_ext s 5 12 (by omega) rfl).symm⟩
theorem exts2 {s : ByteArray} : s.extract 0 100 = fW (lOf s) 0 ∧ s.extract 156 157 = fW (lOf s) 7 ∧ s.extract 157 257 = fW (lOf s) 8 ∧ s.extract 265 297 = fW (lOf s) 10 ∧ s.extract 297 329 = fW (lOf s) 11 ∧ s.extract 345 500 = fW (lOf s) 14 :=
  ⟨(fW_ext s 0 100 (by omega) rfl).symm, (fW_ext s 7 1 (by omega) rfl).symm, (fW_ext s 8 100 (by omega) rfl).symm, (fW_ext s 10 32 (by omega) rfl).symm, (fW_ext s 11 32 (by omega) rfl).symm, (fW_ext s 14 155 (by omega) rfl).symm⟩
theorem fW_size {l : List UInt8} (h : l.length = 512) {k x : Nat} (hk : k < 15) (hx : widths[k]? = some x) : (fW l k).size = x := by
  obtain ⟨y, hy, _, _, _, h4⟩ := widths_at hk
  obtain rfl : y = x := by rw [hy] at hx; exact Option.some.inj hx
  rw [fW, fieldv, ba_size, List.length_take, List.length_drop, h, show widths.getD k 0 = y from by simp [List.getD, hy]]
  omega
theorem okS_eq {s : ByteArray} (h : 512 ≤ s.size) : okS s = headOkG (lokv (lOf s)) (lvalv (lOf s)) ∧
    (okS s = true → fnumv (s.extract 100 108) = lvalv (lOf s) 1 ∧ (gNum (s.extract 108 116) 2097151).1 = lvalv (lOf s) 2 ∧ (gNum (s.extract 116 124) 2097151).1 = lvalv (lOf s) 3 ∧ fnumv (s.extract 124 136) = lvalv (lOf s) 4 ∧ (gNum (s.extract 136 148) 8589934591).1 = lvalv (lOf s) 5) := by
  obtain ⟨x1, x2, x3, x4, x5⟩ := exts (s := s)
  have hl : (lOf s).length = 512 := by simp [lOf]; omega
  have z2 := fW_size hl (k := 2) (by omega) rfl
  have z3 := fW_size hl (k := 3) (by omega) rfl
  have z5 := fW_size hl (k := 5) (by omega) rfl
  obtain ⟨a2, b2⟩ := gNum_same (f := fW (lOf s) 2) (k := 7) (most := 2097151) (by omega) (by omega) (by omega) (by decide)
  obtain ⟨a3, b3⟩ := gNum_same (f := fW (lOf s) 3) (k := 7) (most := 2097151) (by omega) (by omega) (by omega) (by decide)
  obtain ⟨a5, b5⟩ := gNum_same (f := fW (lOf s) 5) (k := 11) (most := 8589934591) (by omega) (by omega) (by omega) (by decide)
  have v1 : lvalv (lOf s) 1 = fnumv (fW (lOf s) 1) := rfl
  have v4 : lvalv (lOf s) 4 = fnumv (fW (lOf s) 4) := rfl
  have o1 : lokv (lOf s) 1 = fnumOk (fW (lOf s) 1) := by rw [lokv]; rfl
  have o4 : lokv (lOf s) 4 = fnumOk (fW (lOf s) 4) := by rw [lokv]; rfl
  have o2 : lokv (lOf s) 2 = (inBin (fW (lOf s) 2) 7 || fnumOk (fW (lOf s) 2)) := rfl
  have o3 : lokv (lOf s) 3 = (inBin (fW (lOf s) 3) 7 || fnumOk (fW (lOf s) 3)) := rfl
  have o5 : lokv (lOf s) 5 = (inBin (fW (lOf s) 5) 11 || fnumOk (fW (lOf s) 5)) := rfl
  have v2 : lvalv (lOf s) 2 = if inBin (fW (lOf s) 2) 7 = true then (bigv (fW (lOf s) 2)).1 else fnumv (fW (lOf s) 2) := rfl
  have v3 : lvalv (lOf s) 3 = if inBin (fW (lOf s) 3) 7 = true then (bigv (fW (lOf s) 3)).1 else fnumv (fW (lOf s) 3) := rfl
  have v5 : lvalv (lOf s) 5 = if inBin (fW (lOf s) 5) 11 = true then (bigv (fW (lOf s) 5)).1 else fnumv (fW (lOf s) 5) := rfl
  have hok : okS s = headOkG (lokv (lOf s)) (lvalv (lOf s)) := by
    rw [okS, headOkG, x1, x2, x3, x4, x5, a2, a3, a5, v4]
    simp only [ok5G, o1, o2, o3, o4, o5, Bool.true_and]
  refine ⟨hok, fun hk => ?_⟩
  rw [hok] at hk
  obtain ⟨⟨_, k2, k3, _, k5⟩, _⟩ := headOk_all hk
  rw [x1, x2, x3, x4, x5]
  exact ⟨v1.symm, by rw [b2 (by rw [a2, ← o2]; exact k2), v2], by rw [b3 (by rw [a3, ← o3]; exact k3), v3], v4.symm, by rw [b5 (by rw [a5, ← o5]; exact k5), v5]⟩
theorem mid_list (P F N : List UInt8) (a n : Nat) (hP : P.length = a) (hF : F.length = n) : ((P ++ F ++ N).drop a).take n = F := by
  rw [List.append_assoc, ← hP, List.drop_left, ← hF, List.take_left]
/-- Where a prefix would stand there are NULs. -/
theorem lhd_prefix {e : Ent} {name flag : ByteArray} {size : Int} (nm : 0 ≤ e.mode ∧ e.mode ≤ 9007199254740991) (nu : 0 ≤ e.uid ∧ e.uid ≤ 9007199254740991) (ng : 0 ≤ e.gid ∧ e.gid ≤ 9007199254740991) (nt : 0 ≤ e.time ∧ e.time ≤ 9007199254740991) (ns : 0 ≤ size ∧ size ≤ 9007199254740991)
    (zus : e.user.size ≤ 32) (zgr : e.group.size ≤ 32) (zfl : flag.size = 1) : (lhdv e name flag size).extract 345 500 = nulv 155 := by
  have hA := hdA_size (e := { e with link := firstv e.link }) (name := firstv name) (size := size) (first_size name) nm nu ng nt ns
  have hB := headB_size (e := { e with link := firstv e.link }) (pf := ⟨#[]⟩) (flag := flag) (magic := magicG) (first_size e.link) zus zgr (by decide) zfl (by decide)
  have s1 := sumv_bd (hdA { e with link := firstv e.link } (firstv name) size).data.toList
  have s2 := sumv_bd (headB { e with link := firstv e.link } ⟨#[]⟩ flag magicG).data.toList
  have l1 : (hdA { e with link := firstv e.link } (firstv name) size).data.toList.length = 148 := by simpa using hA
  have l2 : (headB { e with link := firstv e.link } ⟨#[]⟩ flag magicG).data.toList.length = 356 := by simpa using hB
  have p6 : (8 : Nat) ^ 6 = 262144 := by decide
  obtain ⟨_, hz, _⟩ := oct_fits (n := sumv (hdA { e with link := firstv e.link } (firstv name) size).data.toList + 256 + sumv (headB { e with link := firstv e.link } ⟨#[]⟩ flag magicG).data.toList) (k := 6) (by omega) (by omega) (by omega) (by omega)
  have hz' : (putOctv (sumv (hdA { e with link := firstv e.link } (firstv name) size).data.toList + 256 + sumv (headB { e with link := firstv e.link } ⟨#[]⟩ flag magicG).data.toList) 6).1.size = 6 := hz
  rw [lhdv, hdv]
  generalize (putOctv (sumv (hdA { e with link := firstv e.link } (firstv name) size).data.toList + 256 + sumv (headB { e with link := firstv e.link } ⟨#[]⟩ flag magicG).data.toList) 6).1 = S at *
  generalize hdA { e with link := firstv e.link } (firstv name) size = X at *
  rw [headB]
  have b1 := fill_exact (first_size e.link) (by omega)
  have b2 := fill_exact zus (by omega)
  have b3 := fill_exact zgr (by omega)
  have b5 := octz_exact (n := 0) (x := 8) (by omega) (by omega) (by omega) (by decide)
  have b7 : magicG.size = 8 := by decide
  simp only [Int.cast_ofNat_Int] at b1 b2 b3 b5
  have e155 : fillv ⟨#[]⟩ 155 = nulv 155 := by decide +kernel
  rw [e155]
  show (X ++ S ++ ⟨#[0, 32]⟩ ++ (flag ++ fillv (firstv e.link) 100 ++ magicG ++ fillv e.user 32 ++ fillv e.group 32 ++ octz 0 8 ++ octz 0 8 ++ nulv 155 ++ nulv 12)).extract 345 500 = nulv 155
  generalize fillv (firstv e.link) 100 = f1 at *
  generalize fillv e.user 32 = f2 at *
  generalize fillv e.group 32 = f3 at *
  generalize octz 0 8 = f4 at *
  have hlist := mid_list (X ++ S ++ ⟨#[0, 32]⟩ ++ (flag ++ f1 ++ magicG ++ f2 ++ f3 ++ f4 ++ f4)).data.toList (nulv 155).data.toList (nulv 12).data.toList 345 155 (by
    have h2 : (⟨#[0, 32]⟩ : ByteArray).size = 2 := rfl
    have : (X ++ S ++ ⟨#[0, 32]⟩ ++ (flag ++ f1 ++ magicG ++ f2 ++ f3 ++ f4 ++ f4)).size = 345 := by
      simp only [ByteArray.size_append]
      omega
    rw [show ∀ Y : ByteArray, Y.data.toList.length = Y.size from fun Y => by simp]
    exact this) (by have := nulv_size 155; simpa using this)
  apply ba_ext
  rw [← hlist]
  have e2 : (X ++ S ++ ⟨#[0, 32]⟩ ++ (flag ++ f1 ++ magicG ++ f2 ++ f3 ++ f4 ++ f4 ++ nulv 155 ++ nulv 12)).data.toList = (X ++ S ++ ⟨#[0, 32]⟩ ++ (flag ++ f1 ++ magicG ++ f2 ++ f3 ++ f4 ++ f4)).data.toList ++ (nulv 155).data.toList ++ (nulv 12).data.toList := by simp
  have e3 : ∀ Y : ByteArray, (Y.extract 345 500).data.toList = (Y.data.toList.drop 345).take 155 := fun Y => by simp
  rw [e3, e2]
theorem nul_cut : (cutv (nulv 155)).size = 0 := by decide +kernel
theorem no_prefix {s X : ByteArray} (hX : X = s.extract 0 512) (hp : X.extract 345 500 = nulv 155) (hn : ¬ (cutv (fW (lOf s) 14)).size = 0) : False := by
  have e3 : ∀ Y : ByteArray, (Y.extract 345 500).data.toList = (Y.data.toList.drop 345).take 155 := fun Y => by simp
  have e : (s.extract 0 512).extract 345 500 = s.extract 345 500 := by
    apply ba_ext
    rw [e3, e3]
    have : (s.extract 0 512).data.toList = s.data.toList.take 512 := by simp
    rw [this, List.drop_take, List.take_take, Nat.min_eq_left (by omega)]
  rw [hX, e, (exts2 (s := s)).2.2.2.2.2] at hp
  exact hn (by rw [hp]; exact nul_cut)
theorem head_same {s : ByteArray} (h512 : 512 ≤ s.size) (hok : okS s = true) :
    (hdL (lOf s) = ⟨(lOf s).toArray⟩ ↔ lhdv (entS s) (cutv (s.extract 0 100)) (s.extract 156 157) (fnumv (s.extract 124 136)) = s.extract 0 512) ∧ (hdL (lOf s) = ⟨(lOf s).toArray⟩ → entVG (lOf s) (lvalv (lOf s)) = entS s) := by
  obtain ⟨hk, hv⟩ := okS_eq h512
  obtain ⟨e1, e2, e3, e4, e5⟩ := hv hok
  rw [hk] at hok
  obtain ⟨⟨k1, k2, k3, k4, k5⟩, _⟩ := headOk_all hok
  obtain ⟨x0, x7, x8, x10, x11, _⟩ := exts2 (s := s)
  have hl : (lOf s).length = 512 := by simp [lOf]; omega
  have hES : entS s = ⟨0, cutv (fW (lOf s) 0), cutv (fW (lOf s) 8), lvalv (lOf s) 1, lvalv (lOf s) 2, lvalv (lOf s) 3, lvalv (lOf s) 5, cutv (fW (lOf s) 10), cutv (fW (lOf s) 11), ⟨#[]⟩⟩ := by
    rw [entS, x0, x8, x10, x11, e1, e2, e3, e5]
  rw [whole_lOf, hES, x0, x7, e4]
  by_cases hp : (cutv (fW (lOf s) 14)).size = 0
  · have hP : pathL (lOf s) = cutv (fW (lOf s) 0) := by rw [pathL, if_pos hp]
    have hEq : entVG (lOf s) (lvalv (lOf s)) = ⟨0, cutv (fW (lOf s) 0), cutv (fW (lOf s) 8), lvalv (lOf s) 1, lvalv (lOf s) 2, lvalv (lOf s) 3, lvalv (lOf s) 5, cutv (fW (lOf s) 10), cutv (fW (lOf s) 11), ⟨#[]⟩⟩ := by rw [entVG, hP]
    rw [hdL, hEq, hP]
    exact ⟨Iff.rfl, fun _ => rfl⟩
  · have f1 : ¬ hdL (lOf s) = s.extract 0 512 := fun h => no_prefix h (lhd_prefix (e := entVG (lOf s) (lvalv (lOf s))) (lval_bd k1) (lval_bd k2) (lval_bd k3) (lval_bd k5) (lval_bd k4) (cutW_le (lOf s) 10) (cutW_le (lOf s) 11) (fW_one hl)) hp
    have f2 : ¬ lhdv ⟨0, cutv (fW (lOf s) 0), cutv (fW (lOf s) 8), lvalv (lOf s) 1, lvalv (lOf s) 2, lvalv (lOf s) 3, lvalv (lOf s) 5, cutv (fW (lOf s) 10), cutv (fW (lOf s) 11), ⟨#[]⟩⟩ (cutv (fW (lOf s) 0)) (fW (lOf s) 7) (lvalv (lOf s) 4) = s.extract 0 512 := fun h => no_prefix h (lhd_prefix (e := ⟨0, cutv (fW (lOf s) 0), cutv (fW (lOf s) 8), lvalv (lOf s) 1, lvalv (lOf s) 2, lvalv (lOf s) 3, lvalv (lOf s) 5, cutv (fW (lOf s) 10), cutv (fW (lOf s) 11), ⟨#[]⟩⟩) (lval_bd k1) (lval_bd k2) (lval_bd k3) (lval_bd k5) (lval_bd k4) (cutW_le (lOf s) 10) (cutW_le (lOf s) 11) (fW_one hl)) hp
    exact ⟨⟨fun h => absurd h f1, fun h => absurd h f2⟩, fun h => absurd h f1⟩
theorem hdcL_bad {s : ByteArray} (h : ¬ rdL s = 0) : hdcL s = rdL s := by
  unfold rdL at h ⊢
  unfold hdcL
  by_cases h1 : s.size < 512
  · rw [if_pos h1, if_pos h1]
  · rw [if_neg h1] at h
    rw [if_neg h1, if_neg h1]
    by_cases h2 : sumOkv s = false
    · rw [if_pos h2, if_pos h2]
    · rw [if_neg h2] at h
      rw [if_neg h2, if_neg h2]
      by_cases h3 : okS s = false
      · rw [if_pos h3, if_pos (by rw [← (okS_eq (by omega)).1]; exact h3)]
      · rw [if_neg h3] at h
        exact absurd rfl h
theorem hdcL_good {s : ByteArray} (h : rdL s = 0) : 512 ≤ s.size ∧ okS s = true ∧ hdcL s = if hdL (lOf s) = ⟨(lOf s).toArray⟩ then 0 else 4 := by
  unfold rdL at h
  by_cases h1 : s.size < 512
  · rw [if_pos h1] at h; omega
  · rw [if_neg h1] at h
    by_cases h2 : sumOkv s = false
    · rw [if_pos h2] at h; omega
    · rw [if_neg h2] at h
      by_cases h3 : okS s = false
      · rw [if_pos h3] at h; omega
      · have h4 : okS s = true := by simpa using h3
        exact ⟨by omega, h4, by rw [hdcL, if_neg h1, if_neg h2, if_neg (by rw [← (okS_eq (by omega)).1, h4]; decide)]⟩
/-- What GetLong hands back, as the model tells it. -/
theorem getLV_good {s : ByteArray} (h : rdL s = 0) : getLV s = if lhdv (entS s) (cutv (s.extract 0 100)) (s.extract 156 157) (fnumv (s.extract 124 136)) = s.extract 0 512 then .tuple #[.agg (entS s).cells.toArray, .string (s.extract 156 157), .int .i64 (fnumv (s.extract 124 136)), .int .i64 0] else .tuple #[.agg zEnt, .string ⟨#[]⟩, .int .i64 0, .int .i64 4] := by
  obtain ⟨h512, hok, hc⟩ := hdcL_good h
  obtain ⟨hi, he⟩ := head_same h512 hok
  obtain ⟨_, _, _, e4, _⟩ := (okS_eq h512).2 hok
  rw [getLV, hc]
  by_cases hq : hdL (lOf s) = ⟨(lOf s).toArray⟩
  · rw [if_pos hq, if_pos rfl, if_pos (hi.1 hq), he hq, (exts2 (s := s)).2.1, e4]
  · rw [if_neg hq, if_neg (by decide), if_neg (fun k => hq (hi.2 k))]
theorem getLV_bad {s : ByteArray} (h : ¬ rdL s = 0) : getLV s = .tuple #[.agg zEnt, .string ⟨#[]⟩, .int .i64 0, .int .i64 (rdL s)] := by
  rw [getLV, hdcL_bad h, if_neg h]
theorem fnum_8 {f : ByteArray} (hz : f.size = 8) (h : fnumOk f = true) : fnumv f ≤ 2097151 := by
  rw [fnumOk, Bool.and_eq_true] at h
  have e : f.data.toList.take (f.size - 1) = (f.extract 0 7).data.toList := by rw [ext0, hz]
  have hb := octv_bd h.1
  rw [fnumv]
  rw [e] at h hb ⊢
  have h2 := oct_read (f.extract 0 7) (getOctv (f.extract 0 7).data.toList).1 (by rw [← h.1])
  have hs : (f.extract 0 7).size = 7 := by rw [ByteArray.size_extract]; omega
  have h3 := (putOct_true (n := (getOctv (f.extract 0 7).data.toList).1) (width := ((f.extract 0 7).size : Nat)) (by rw [h2])).2
  rw [Int.toNat_natCast, hs] at h3
  have : (8 : Nat) ^ 7 = 2097152 := by decide
  omega
/-- The numbers of a header that is read. -/
theorem entS_bd {s : ByteArray} (h : rdL s = 0) : (0 ≤ fnumv (s.extract 100 108) ∧ fnumv (s.extract 100 108) ≤ 2097151) ∧ (0 ≤ (gNum (s.extract 108 116) 2097151).1 ∧ (gNum (s.extract 108 116) 2097151).1 ≤ 9007199254740991) ∧ (0 ≤ (gNum (s.extract 116 124) 2097151).1 ∧ (gNum (s.extract 116 124) 2097151).1 ≤ 9007199254740991) ∧ (0 ≤ (gNum (s.extract 136 148) 8589934591).1 ∧ (gNum (s.extract 136 148) 8589934591).1 ≤ 9007199254740991) ∧ (0 ≤ fnumv (s.extract 124 136) ∧ fnumv (s.extract 124 136) ≤ 3000) := by
  obtain ⟨h512, hok, _⟩ := hdcL_good h
  obtain ⟨hk, hv⟩ := okS_eq h512
  obtain ⟨e1, e2, e3, e4, e5⟩ := hv hok
  have hl : (lOf s).length = 512 := by simp [lOf]; omega
  rw [hk] at hok
  obtain ⟨⟨k1, k2, k3, k4, k5⟩, k6⟩ := headOk_all hok
  have k1' : fnumOk (fW (lOf s) 1) = true := by rw [lokv] at k1; exact k1
  have m1 : lvalv (lOf s) 1 = fnumv (fW (lOf s) 1) := rfl
  rw [e1, e2, e3, e4, e5]
  exact ⟨⟨(lval_bd k1).1, by rw [m1]; exact fnum_8 (fW_size hl (by omega) rfl) k1'⟩, lval_bd k2, lval_bd k3, lval_bd k5, (lval_bd k4).1, k6⟩
end Go.Proofs.YtgpgkgahbkmdiabGreatDoor

/- Contract of spec.l06Head. -/
namespace Go.Proofs.YtgpgkgahbkmdiabGreatDoor
open Go.ChangeShapes Go.WideShapes Go.ChangeAt Go.RowKit Go.Deep

set_option maxHeartbeats 6400000 in
set_option maxRecDepth 8000 in
theorem l06Head_spec (k : Int) (p l : ByteArray) (m u g t : Int) (us gr b nm fl : ByteArray) (sz : Int) (w : World) (hl : l.size ≤ 100000) (hus : us.size ≤ 100000) (hgr : gr.size ≤ 100000) (hnm : nm.size ≤ 100000) (hfl : fl.size ≤ 100000) (nm0 : 0 ≤ m ∧ m ≤ 2097151) (nu : 0 ≤ u ∧ u ≤ 9007199254740991) (ng : 0 ≤ g ∧ g ≤ 9007199254740991) (nt : 0 ≤ t ∧ t ≤ 9007199254740991) (ns : 0 ≤ sz ∧ sz ≤ 3001) :
    Calls Tryz.prog 28 #[.string nm, .agg #[.int .i64 k, .string p, .string l, .int .i64 m, .int .i64 u, .int .i64 g, .int .i64 t, .string us, .string gr, .string b], .string fl, .int .i64 sz] w fun e w' => e = .returned (.string (lhdv ⟨k, p, l, m, u, g, t, us, gr, b⟩ nm fl sz)) ∧ Below w.heap.size w w' := by
  have p7 : (8 : Nat) ^ (8 - 1) = 2097152 := by decide
  have p11 : (8 : Nat) ^ (12 - 1) = 8589934592 := by decide
  have HQn := Lib.hid (fun w => l06First_any nm w (by omega))
  have HQl := Lib.hid (fun w => l06First_any l w (by omega))
  have qzn := first_size nm
  have qzl := first_size l
  have HN := Lib.hid (fun w => fill_spec (firstv nm) 100 w (by omega))
  have HLk := Lib.hid (fun w => fill_spec (firstv l) 100 w (by omega))
  have HU := Lib.hid (fun w => fill_spec us 32 w (by omega))
  have HG := Lib.hid (fun w => fill_spec gr 32 w (by omega))
  have HZ := Lib.hid (fun w => nuls_spec 167 w (by omega))
  have HOm := Lib.hid (fun w => l04Oct_spec m 8 w (by omega) (by omega))
  have em : numz m ((8 : Nat)) = octz m ((8 : Nat) : Int) := numz_oct nm0.1 (by omega) (by omega) (by omega)
  have HOu := Lib.hid (fun w => l06Num_spec u 8 2097151 w nu.1 nu.2 (by omega) (by omega) (by decide))
  have HOg := Lib.hid (fun w => l06Num_spec g 8 2097151 w ng.1 ng.2 (by omega) (by omega) (by decide))
  have HOs := Lib.hid (fun w => l04Oct_spec sz 12 w (by omega) (by omega))
  have es : numz sz ((12 : Nat)) = octz sz ((12 : Nat) : Int) := numz_oct ns.1 (by omega) (by omega) (by omega)
  have HOt := Lib.hid (fun w => l06Num_spec t 12 8589934591 w nt.1 nt.2 (by omega) (by omega) (by decide))
  have HO0 := Lib.hid (fun w => l04Oct_spec 0 8 w (by omega) (by omega))
  have zfn := fill_size (firstv nm) 100 (by omega)
  have zfl := fill_size (firstv l) 100 (by omega)
  have zfu := fill_size us 32 (by omega)
  have zfg := fill_size gr 32 (by omega)
  have zz := nulv_size 167
  have zom := octz_size m 8
  have zou := numz_size (n := u) (x := 8) nu.1 nu.2 (by omega) (by omega)
  have zog := numz_size (n := g) (x := 8) ng.1 ng.2 (by omega) (by omega)
  have zos := octz_size sz 12
  have zot := numz_size (n := t) (x := 12) nt.1 nt.2 (by omega) (by omega)
  have zo0 := octz_size 0 8
  have zlit : (⟨#[117, 115, 116, 97, 114, 32, 32, 0]⟩ : ByteArray).size = 8 := rfl
  have HE : Hid (lhdv ⟨k, p, l, m, u, g, t, us, gr, b⟩ nm fl sz = hdA ⟨k, p, l, m, u, g, t, us, gr, b⟩ (firstv nm) sz ++ (putOctv (sumv (hdA ⟨k, p, l, m, u, g, t, us, gr, b⟩ (firstv nm) sz).data.toList + 256 + sumv (headB ⟨k, p, firstv l, m, u, g, t, us, gr, b⟩ ⟨#[]⟩ fl magicG).data.toList) 6).1 ++ ⟨#[0, 32]⟩ ++ headB ⟨k, p, firstv l, m, u, g, t, us, gr, b⟩ ⟨#[]⟩ fl magicG) := Lib.hid rfl
  have HEA : Hid (hdA ⟨k, p, l, m, u, g, t, us, gr, b⟩ (firstv nm) sz = fillv (firstv nm) 100 ++ octz m 8 ++ numz u 8 ++ numz g 8 ++ octz sz 12 ++ numz t 12) := Lib.hid (by
    show fillv (firstv nm) 100 ++ numz m 8 ++ numz u 8 ++ numz g 8 ++ numz sz 12 ++ numz t 12 = _
    rw [em, es]; rfl)
  have HEB : Hid (headB ⟨k, p, firstv l, m, u, g, t, us, gr, b⟩ ⟨#[]⟩ fl magicG = fl ++ fillv (firstv l) 100 ++ ⟨#[117, 115, 116, 97, 114, 32, 32, 0]⟩ ++ fillv us 32 ++ fillv gr 32 ++ octz 0 8 ++ octz 0 8 ++ nulv 167) := Lib.hid (by
    rw [← nul_167]
    apply ba_ext
    simp [headB, magicG])
  clear em es p7 p11 nu ng nt ns nm0
  generalize lhdv ⟨k, p, l, m, u, g, t, us, gr, b⟩ nm fl sz = r at HE
  generalize hdA ⟨k, p, l, m, u, g, t, us, gr, b⟩ (firstv nm) sz = hA at HE HEA
  generalize headB ⟨k, p, firstv l, m, u, g, t, us, gr, b⟩ ⟨#[]⟩ fl magicG = hB at HE HEB
  rw [show ((167 : Int).toNat) = 167 from rfl] at HZ
  generalize fillv (firstv nm) 100 = fn at *
  generalize fillv (firstv l) 100 = fll at *
  generalize fillv us 32 = fu at *
  generalize fillv gr 32 = fg at *
  generalize nulv 167 = z12 at *
  generalize octz m 8 = om at *
  generalize numz u 8 = ou at *
  generalize numz g 8 = og at *
  generalize octz sz 12 = os at *
  generalize numz t 12 = ot at *
  generalize octz 0 8 = o0 at *
  generalize firstv nm = qn at *
  generalize firstv l = ql at *
  simp only [show ((100 : Int).toNat) = 100 from rfl, show ((32 : Int).toNat) = 32 from rfl] at zfn zfl zfu zfg
  simp only [show (((8 : Nat) : Int)) = 8 from rfl, show (((12 : Nat) : Int)) = 12 from rfl] at HOu HOg HOt
  go_enter Tryz.func28, Tryz.ntmps28
  go_wp2_with fail
  have E0 := EntAt.new w ⟨k, p, l, m, u, g, t, us, gr, b⟩ 23
  have B0 := (Below.refl w.heap.size w).alloc (Nat.le_refl _) (.cells (Ent.cells ⟨k, p, l, m, u, g, t, us, gr, b⟩).toArray 23)
  have z0 : w.heap.size < (w.alloc (.cells (Ent.cells ⟨k, p, l, m, u, g, t, us, gr, b⟩).toArray 23)).heap.size := by simp
  simp only [Ent.cells] at E0 B0 z0
  generalize w.alloc (.cells #[.int .i64 k, .string p, .string l, .int .i64 m, .int .i64 u, .int .i64 g, .int .i64 t, .string us, .string gr, .string b] 23) = w1 at *
  have E1 := Lib.hid E0
  have B1 := Lib.hid B0
  clear E0 B0
  have KC : Hid (∀ w', Below w1.heap.size w1 w' → w'.cell? ⟨w.heap.size, 1, none⟩ = some (.string p) ∧ w'.cell? ⟨w.heap.size, 2, none⟩ = some (.string l) ∧ w'.cell? ⟨w.heap.size, 3, none⟩ = some (.int .i64 m) ∧ w'.cell? ⟨w.heap.size, 4, none⟩ = some (.int .i64 u) ∧ w'.cell? ⟨w.heap.size, 5, none⟩ = some (.int .i64 g) ∧ w'.cell? ⟨w.heap.size, 6, none⟩ = some (.int .i64 t) ∧ w'.cell? ⟨w.heap.size, 7, none⟩ = some (.string us) ∧ w'.cell? ⟨w.heap.size, 8, none⟩ = some (.string gr)) := Lib.hid (fun w' hb => by obtain ⟨c0, c1, c2, c3, c4, c5, c6, c7, c8, c9⟩ := (E1.out.below hb z0).zero; exact ⟨c1, c2, c3, c4, c5, c6, c7, c8⟩)
  obtain ⟨x19, hx19⟩ : ∃ x : ByteArray, x = fn ++ om := ⟨_, rfl⟩
  obtain ⟨x23, hx23⟩ : ∃ x : ByteArray, x = x19 ++ ou := ⟨_, rfl⟩
  obtain ⟨x27, hx27⟩ : ∃ x : ByteArray, x = x23 ++ og := ⟨_, rfl⟩
  obtain ⟨x30, hx30⟩ : ∃ x : ByteArray, x = x27 ++ os := ⟨_, rfl⟩
  obtain ⟨x34, hx34⟩ : ∃ x : ByteArray, x = x30 ++ ot := ⟨_, rfl⟩
  have zx19 : x19.size ≤ 100121 := by rw [hx19, ByteArray.size_append]; omega
  have zx23 : x23.size ≤ 100142 := by rw [hx23, ByteArray.size_append]; omega
  have zx27 : x27.size ≤ 100163 := by rw [hx27, ByteArray.size_append]; omega
  have zx30 : x30.size ≤ 100184 := by rw [hx30, ByteArray.size_append]; omega
  have zx34 : x34.size ≤ 100205 := by rw [hx34, ByteArray.size_append]; omega
  have HA19 : Hid (∀ w, (Op.stringOp .add fn om).run Tryz.prog w = .ok (.string x19) w) := Lib.hid (fun w => by rw [hx19]; exact run_string_add_sum w _ _ (by omega))
  have HA23 : Hid (∀ w, (Op.stringOp .add x19 ou).run Tryz.prog w = .ok (.string x23) w) := Lib.hid (fun w => by rw [hx23]; exact run_string_add_sum w _ _ (by omega))
  have HA27 : Hid (∀ w, (Op.stringOp .add x23 og).run Tryz.prog w = .ok (.string x27) w) := Lib.hid (fun w => by rw [hx27]; exact run_string_add_sum w _ _ (by omega))
  have HA30 : Hid (∀ w, (Op.stringOp .add x27 os).run Tryz.prog w = .ok (.string x30) w) := Lib.hid (fun w => by rw [hx30]; exact run_string_add_sum w _ _ (by omega))
  have HA34 : Hid (∀ w, (Op.stringOp .add x30 ot).run Tryz.prog w = .ok (.string x34) w) := Lib.hid (fun w => by rw [hx34]; exact run_string_add_sum w _ _ (by omega))
  have HX19 := Lib.hid hx19
  have HX23 := Lib.hid hx23
  have HX27 := Lib.hid hx27
  have HX30 := Lib.hid hx30
  have HX34 := Lib.hid hx34
  clear hx19 hx23 hx27 hx30 hx34
  refine wp_region_inv (by kernel_rfl) (fun w' => Below w1.heap.size w1 w') (fun x y => Below x.heap.size x y) (fun d v _ => match d with | 13 => v = .string nm | 14 => v = .string qn | 15 => v = .string fn | 16 => v = .pointer (some ⟨w.heap.size, 3, none⟩) | 17 => v = .int .i64 m | 18 => v = .string om | 19 => v = .string x19 | 20 => v = .pointer (some ⟨w.heap.size, 4, none⟩) | 21 => v = .int .i64 u | 22 => v = .string ou | 23 => v = .string x23 | 24 => v = .pointer (some ⟨w.heap.size, 5, none⟩) | 25 => v = .int .i64 g | 26 => v = .string og | 27 => v = .string x27 | 28 => v = .int .i64 sz | 29 => v = .string os | 30 => v = .string x30 | 31 => v = .pointer (some ⟨w.heap.size, 6, none⟩) | 32 => v = .int .i64 t | 33 => v = .string ot | 34 => v = .string x34 | 9 => v = .string x34 | _ => True) (by kernel_rfl) ((Below.refl _ _).drew) (fun _ _ _ _ _ _ h => h) ?hops ?hend
  case hops =>
    simp only [List.forall_mem_cons]
    refine ⟨?o13, ?o14, ?o15, ?o16, ?o17, ?o18, ?o19, ?o20, ?o21, ?o22, ?o23, ?o24, ?o25, ?o26, ?o27, ?o28, ?o29, ?o30, ?o31, ?o32, ?o33, ?o34, ?o9, fun _ h => by cases h⟩
    case o13 =>
      intro Q a w2 hC hV hI
      have e0 : a.eval (.tmp 0) = .string nm := (hI 0 (by simp [Op.operands]) (by kernel_rfl)).trans rfl
      have f0 : a.tmps.getD 0 undef = .string nm := e0
      have g0 : a.tmps[0]?.getD undef = .string nm := by rw [← Array.getD_eq_getD_getElem?]; exact e0
      refine op_val (.string nm) ?_ hC (Below.refl _ _) (by intro d hd; cases hd; rfl)
      (clear hV hI hC; go_simp <;> (first | rfl | simp))
    case o14 =>
      intro Q a w2 hC hV hI
      have e13 : a.eval (.tmp 13) = .string nm := hV 13 (by simp [Op.operands, Call.operands]) (by kernel_rfl)
      have f13 : a.tmps.getD 13 undef = .string nm := e13
      have g13 : a.tmps[13]?.getD undef = .string nm := by rw [← Array.getD_eq_getD_getElem?]; exact e13
      refine op_call (f := 63) (args := #[.string nm, .int .i64 100]) (R := fun v y => v = .string qn ∧ w2 = y) ?_ ((HQn.out w2).mono ?_) ?_
      · (clear hV hI hC; go_simp <;> (first | rfl | simp))
      · rintro e y ⟨rfl, rfl⟩; exact ⟨_, rfl, rfl, rfl⟩
      · rintro v y ⟨rfl, rfl⟩; exact ⟨hC, Below.refl _ _, by intro d hd; cases hd; rfl⟩
    case o15 =>
      intro Q a w2 hC hV hI
      have e14 : a.eval (.tmp 14) = .string qn := hV 14 (by simp [Op.operands, Call.operands]) (by kernel_rfl)
      have f14 : a.tmps.getD 14 undef = .string qn := e14
      have g14 : a.tmps[14]?.getD undef = .string qn := by rw [← Array.getD_eq_getD_getElem?]; exact e14
      refine op_call (f := 62) (args := #[.string qn, .int .i64 100]) (R := fun v y => v = .string fn ∧ Below w2.heap.size w2 y) ?_ ((HN.out w2).mono ?_) ?_
      · (clear hV hI hC; go_simp <;> (first | rfl | simp))
      · rintro e y ⟨rfl, hb⟩; exact ⟨_, rfl, rfl, hb⟩
      · rintro v y ⟨rfl, hb⟩; exact ⟨hC.trans (hb.mono hC.size), hb, by intro d hd; cases hd; rfl⟩
    case o16 =>
      intro Q a w2 hC hV hI
      have e5 : a.eval (.tmp 5) = .pointer (some ⟨w.heap.size, 0, none⟩) := (hI 5 (by simp [Op.operands]) (by kernel_rfl)).trans rfl
      have f5 : a.tmps.getD 5 undef = .pointer (some ⟨w.heap.size, 0, none⟩) := e5
      have g5 : a.tmps[5]?.getD undef = .pointer (some ⟨w.heap.size, 0, none⟩) := by rw [← Array.getD_eq_getD_getElem?]; exact e5
      refine op_val (.pointer (some ⟨w.heap.size, 3, none⟩)) ?_ hC (Below.refl _ _) (by intro d hd; cases hd; rfl)
      (clear hV hI hC; go_simp <;> (first | rfl | simp))
    case o17 =>
      intro Q a w2 hC hV hI
      have e16 : a.eval (.tmp 16) = .pointer (some ⟨w.heap.size, 3, none⟩) := hV 16 (by simp [Op.operands]) (by kernel_rfl)
      have f16 : a.tmps.getD 16 undef = .pointer (some ⟨w.heap.size, 3, none⟩) := e16
      have g16 : a.tmps[16]?.getD undef = .pointer (some ⟨w.heap.size, 3, none⟩) := by rw [← Array.getD_eq_getD_getElem?]; exact e16
      have hK := KC.out w2 hC
      refine op_val (.int .i64 m) ?_ hC (Below.refl _ _) (by intro d hd; cases hd; rfl)
      (clear hV hI hC; go_simp <;> (first | rfl | simp))
    case o18 =>
      intro Q a w2 hC hV hI
      have e17 : a.eval (.tmp 17) = .int .i64 m := hV 17 (by simp [Op.operands, Call.operands]) (by kernel_rfl)
      have f17 : a.tmps.getD 17 undef = .int .i64 m := e17
      have g17 : a.tmps[17]?.getD undef = .int .i64 m := by rw [← Array.getD_eq_getD_getElem?]; exact e17
      refine op_call (f := 64) (args := #[.int .i64 m, .int .i64 8]) (R := fun v y => v = .string om ∧ w2 = y) ?_ ((HOm.out w2).mono ?_) ?_
      · (clear hV hI hC; go_simp <;> (first | rfl | simp))
      · rintro e y ⟨rfl, rfl⟩; exact ⟨_, rfl, rfl, rfl⟩
      · rintro v y ⟨rfl, rfl⟩; exact ⟨hC, Below.refl _ _, by intro d hd; cases hd; rfl⟩
    case o19 =>
      intro Q a w2 hC hV hI
      have e15 : a.eval (.tmp 15) = .string fn := hV 15 (by simp [Op.operands]) (by kernel_rfl)
      have f15 : a.tmps.getD 15 undef = .string fn := e15
      have g15 : a.tmps[15]?.getD undef = .string fn := by rw [← Array.getD_eq_getD_getElem?]; exact e15
      have e18 : a.eval (.tmp 18) = .string om := hV 18 (by simp [Op.operands]) (by kernel_rfl)
      have f18 : a.tmps.getD 18 undef = .string om := e18
      have g18 : a.tmps[18]?.getD undef = .string om := by rw [← Array.getD_eq_getD_getElem?]; exact e18
      refine op_val (.string x19) ?_ hC (Below.refl _ _) (by intro d hd; cases hd; rfl)
      have q := HA19.out w2
      (clear hV hI hC; go_simp <;> (first | rfl | simp))
    case o20 =>
      intro Q a w2 hC hV hI
      have e5 : a.eval (.tmp 5) = .pointer (some ⟨w.heap.size, 0, none⟩) := (hI 5 (by simp [Op.operands]) (by kernel_rfl)).trans rfl
      have f5 : a.tmps.getD 5 undef = .pointer (some ⟨w.heap.size, 0, none⟩) := e5
      have g5 : a.tmps[5]?.getD undef = .pointer (some ⟨w.heap.size, 0, none⟩) := by rw [← Array.getD_eq_getD_getElem?]; exact e5
      refine op_val (.pointer (some ⟨w.heap.size, 4, none⟩)) ?_ hC (Below.refl _ _) (by intro d hd; cases hd; rfl)
      (clear hV hI hC; go_simp <;> (first | rfl | simp))
    case o21 =>
      intro Q a w2 hC hV hI
      have e20 : a.eval (.tmp 20) = .pointer (some ⟨w.heap.size, 4, none⟩) := hV 20 (by simp [Op.operands]) (by kernel_rfl)
      have f20 : a.tmps.getD 20 undef = .pointer (some ⟨w.heap.size, 4, none⟩) := e20
      have g20 : a.tmps[20]?.getD undef = .pointer (some ⟨w.heap.size, 4, none⟩) := by rw [← Array.getD_eq_getD_getElem?]; exact e20
      have hK := KC.out w2 hC
      refine op_val (.int .i64 u) ?_ hC (Below.refl _ _) (by intro d hd; cases hd; rfl)
      (clear hV hI hC; go_simp <;> (first | rfl | simp))
    case o22 =>
      intro Q a w2 hC hV hI
      have e21 : a.eval (.tmp 21) = .int .i64 u := hV 21 (by simp [Op.operands, Call.operands]) (by kernel_rfl)
      have f21 : a.tmps.getD 21 undef = .int .i64 u := e21
      have g21 : a.tmps[21]?.getD undef = .int .i64 u := by rw [← Array.getD_eq_getD_getElem?]; exact e21
      refine op_call (f := 65) (args := #[.int .i64 u, .int .i64 8, .int .i64 2097151]) (R := fun v y => v = .string ou ∧ Below w2.heap.size w2 y) ?_ ((HOu.out w2).mono ?_) ?_
      · (clear hV hI hC; go_simp <;> (first | rfl | simp))
      · rintro e y ⟨rfl, hb⟩; exact ⟨_, rfl, rfl, hb⟩
      · rintro v y ⟨rfl, hb⟩; exact ⟨hC.trans (hb.mono hC.size), hb, by intro d hd; cases hd; rfl⟩
    case o23 =>
      intro Q a w2 hC hV hI
      have e19 : a.eval (.tmp 19) = .string x19 := hV 19 (by simp [Op.operands]) (by kernel_rfl)
      have f19 : a.tmps.getD 19 undef = .string x19 := e19
      have g19 : a.tmps[19]?.getD undef = .string x19 := by rw [← Array.getD_eq_getD_getElem?]; exact e19
      have e22 : a.eval (.tmp 22) = .string ou := hV 22 (by simp [Op.operands]) (by kernel_rfl)
      have f22 : a.tmps.getD 22 undef = .string ou := e22
      have g22 : a.tmps[22]?.getD undef = .string ou := by rw [← Array.getD_eq_getD_getElem?]; exact e22
      refine op_val (.string x23) ?_ hC (Below.refl _ _) (by intro d hd; cases hd; rfl)
      have q := HA23.out w2
      (clear hV hI hC; go_simp <;> (first | rfl | simp))
    case o24 =>
      intro Q a w2 hC hV hI
      have e5 : a.eval (.tmp 5) = .pointer (some ⟨w.heap.size, 0, none⟩) := (hI 5 (by simp [Op.operands]) (by kernel_rfl)).trans rfl
      have f5 : a.tmps.getD 5 undef = .pointer (some ⟨w.heap.size, 0, none⟩) := e5
      have g5 : a.tmps[5]?.getD undef = .pointer (some ⟨w.heap.size, 0, none⟩) := by rw [← Array.getD_eq_getD_getElem?]; exact e5
      refine op_val (.pointer (some ⟨w.heap.size, 5, none⟩)) ?_ hC (Below.refl _ _) (by intro d hd; cases hd; rfl)
      (clear hV hI hC; go_simp <;> (first | rfl | simp))
    case o25 =>
      intro Q a w2 hC hV hI
      have e24 : a.eval (.tmp 24) = .pointer (some ⟨w.heap.size, 5, none⟩) := hV 24 (by simp [Op.operands]) (by kernel_rfl)
      have f24 : a.tmps.getD 24 undef = .pointer (some ⟨w.heap.size, 5, none⟩) := e24
      have g24 : a.tmps[24]?.getD undef = .pointer (some ⟨w.heap.size, 5, none⟩) := by rw [← Array.getD_eq_getD_getElem?]; exact e24
      have hK := KC.out w2 hC
      refine op_val (.int .i64 g) ?_ hC (Below.refl _ _) (by intro d hd; cases hd; rfl)
      (clear hV hI hC; go_simp <;> (first | rfl | simp))
    case o26 =>
      intro Q a w2 hC hV hI
      have e25 : a.eval (.tmp 25) = .int .i64 g := hV 25 (by simp [Op.operands, Call.operands]) (by kernel_rfl)
      have f25 : a.tmps.getD 25 undef = .int .i64 g := e25
      have g25 : a.tmps[25]?.getD undef = .int .i64 g := by rw [← Array.getD_eq_getD_getElem?]; exact e25
      refine op_call (f := 65) (args := #[.int .i64 g, .int .i64 8, .int .i64 2097151]) (R := fun v y => v = .string og ∧ Below w2.heap.size w2 y) ?_ ((HOg.out w2).mono ?_) ?_
      · (clear hV hI hC; go_simp <;> (first | rfl | simp))
      · rintro e y ⟨rfl, hb⟩; exact ⟨_, rfl, rfl, hb⟩
      · rintro v y ⟨rfl, hb⟩; exact ⟨hC.trans (hb.mono hC.size), hb, by intro d hd; cases hd; rfl⟩
    case o27 =>
      intro Q a w2 hC hV hI
      have e23 : a.eval (.tmp 23) = .string x23 := hV 23 (by simp [Op.operands]) (by kernel_rfl)
      have f23 : a.tmps.getD 23 undef = .string x23 := e23
      have g23 : a.tmps[23]?.getD undef = .string x23 := by rw [← Array.getD_eq_getD_getElem?]; exact e23
      have e26 : a.eval (.tmp 26) = .string og := hV 26 (by simp [Op.operands]) (by kernel_rfl)
      have f26 : a.tmps.getD 26 undef = .string og := e26
      have g26 : a.tmps[26]?.getD undef = .string og := by rw [← Array.getD_eq_getD_getElem?]; exact e26
      refine op_val (.string x27) ?_ hC (Below.refl _ _) (by intro d hd; cases hd; rfl)
      have q := HA27.out w2
      (clear hV hI hC; go_simp <;> (first | rfl | simp))
    case o28 =>
      intro Q a w2 hC hV hI
      have e3 : a.eval (.tmp 3) = .int .i64 sz := (hI 3 (by simp [Op.operands]) (by kernel_rfl)).trans rfl
      have f3 : a.tmps.getD 3 undef = .int .i64 sz := e3
      have g3 : a.tmps[3]?.getD undef = .int .i64 sz := by rw [← Array.getD_eq_getD_getElem?]; exact e3
      refine op_val (.int .i64 sz) ?_ hC (Below.refl _ _) (by intro d hd; cases hd; rfl)
      (clear hV hI hC; go_simp <;> (first | rfl | simp))
    case o29 =>
      intro Q a w2 hC hV hI
      have e28 : a.eval (.tmp 28) = .int .i64 sz := hV 28 (by simp [Op.operands, Call.operands]) (by kernel_rfl)
      have f28 : a.tmps.getD 28 undef = .int .i64 sz := e28
      have g28 : a.tmps[28]?.getD undef = .int .i64 sz := by rw [← Array.getD_eq_getD_getElem?]; exact e28
      refine op_call (f := 64) (args := #[.int .i64 sz, .int .i64 12]) (R := fun v y => v = .string os ∧ w2 = y) ?_ ((HOs.out w2).mono ?_) ?_
      · (clear hV hI hC; go_simp <;> (first | rfl | simp))
      · rintro e y ⟨rfl, rfl⟩; exact ⟨_, rfl, rfl, rfl⟩
      · rintro v y ⟨rfl, rfl⟩; exact ⟨hC, Below.refl _ _, by intro d hd; cases hd; rfl⟩
    case o30 =>
      intro Q a w2 hC hV hI
      have e27 : a.eval (.tmp 27) = .string x27 := hV 27 (by simp [Op.operands]) (by kernel_rfl)
      have f27 : a.tmps.getD 27 undef = .string x27 := e27
      have g27 : a.tmps[27]?.getD undef = .string x27 := by rw [← Array.getD_eq_getD_getElem?]; exact e27
      have e29 : a.eval (.tmp 29) = .string os := hV 29 (by simp [Op.operands]) (by kernel_rfl)
      have f29 : a.tmps.getD 29 undef = .string os := e29
      have g29 : a.tmps[29]?.getD undef = .string os := by rw [← Array.getD_eq_getD_getElem?]; exact e29
      refine op_val (.string x30) ?_ hC (Below.refl _ _) (by intro d hd; cases hd; rfl)
      have q := HA30.out w2
      (clear hV hI hC; go_simp <;> (first | rfl | simp))
    case o31 =>
      intro Q a w2 hC hV hI
      have e5 : a.eval (.tmp 5) = .pointer (some ⟨w.heap.size, 0, none⟩) := (hI 5 (by simp [Op.operands]) (by kernel_rfl)).trans rfl
      have f5 : a.tmps.getD 5 undef = .pointer (some ⟨w.heap.size, 0, none⟩) := e5
      have g5 : a.tmps[5]?.getD undef = .pointer (some ⟨w.heap.size, 0, none⟩) := by rw [← Array.getD_eq_getD_getElem?]; exact e5
      refine op_val (.pointer (some ⟨w.heap.size, 6, none⟩)) ?_ hC (Below.refl _ _) (by intro d hd; cases hd; rfl)
      (clear hV hI hC; go_simp <;> (first | rfl | simp))
    case o32 =>
      intro Q a w2 hC hV hI
      have e31 : a.eval (.tmp 31) = .pointer (some ⟨w.heap.size, 6, none⟩) := hV 31 (by simp [Op.operands]) (by kernel_rfl)
      have f31 : a.tmps.getD 31 undef = .pointer (some ⟨w.heap.size, 6, none⟩) := e31
      have g31 : a.tmps[31]?.getD undef = .pointer (some ⟨w.heap.size, 6, none⟩) := by rw [← Array.getD_eq_getD_getElem?]; exact e31
      have hK := KC.out w2 hC
      refine op_val (.int .i64 t) ?_ hC (Below.refl _ _) (by intro d hd; cases hd; rfl)
      (clear hV hI hC; go_simp <;> (first | rfl | simp))
    case o33 =>
      intro Q a w2 hC hV hI
      have e32 : a.eval (.tmp 32) = .int .i64 t := hV 32 (by simp [Op.operands, Call.operands]) (by kernel_rfl)
      have f32 : a.tmps.getD 32 undef = .int .i64 t := e32
      have g32 : a.tmps[32]?.getD undef = .int .i64 t := by rw [← Array.getD_eq_getD_getElem?]; exact e32
      refine op_call (f := 65) (args := #[.int .i64 t, .int .i64 12, .int .i64 8589934591]) (R := fun v y => v = .string ot ∧ Below w2.heap.size w2 y) ?_ ((HOt.out w2).mono ?_) ?_
      · (clear hV hI hC; go_simp <;> (first | rfl | simp))
      · rintro e y ⟨rfl, hb⟩; exact ⟨_, rfl, rfl, hb⟩
      · rintro v y ⟨rfl, hb⟩; exact ⟨hC.trans (hb.mono hC.size), hb, by intro d hd; cases hd; rfl⟩
    case o34 =>
      intro Q a w2 hC hV hI
      have e30 : a.eval (.tmp 30) = .string x30 := hV 30 (by simp [Op.operands]) (by kernel_rfl)
      have f30 : a.tmps.getD 30 undef = .string x30 := e30
      have g30 : a.tmps[30]?.getD undef = .string x30 := by rw [← Array.getD_eq_getD_getElem?]; exact e30
      have e33 : a.eval (.tmp 33) = .string ot := hV 33 (by simp [Op.operands]) (by kernel_rfl)
      have f33 : a.tmps.getD 33 undef = .string ot := e33
      have g33 : a.tmps[33]?.getD undef = .string ot := by rw [← Array.getD_eq_getD_getElem?]; exact e33
      refine op_val (.string x34) ?_ hC (Below.refl _ _) (by intro d hd; cases hd; rfl)
      have q := HA34.out w2
      (clear hV hI hC; go_simp <;> (first | rfl | simp))
    case o9 =>
      intro Q a w2 hC hV hI
      have e34 : a.eval (.tmp 34) = .string x34 := hV 34 (by simp [Op.operands]) (by kernel_rfl)
      have f34 : a.tmps.getD 34 undef = .string x34 := e34
      have g34 : a.tmps[34]?.getD undef = .string x34 := by rw [← Array.getD_eq_getD_getElem?]; exact e34
      refine op_val (.string x34) ?_ hC (Below.refl _ _) (by intro d hd; cases hd; rfl)
      (clear hV hI hC; go_simp <;> (first | rfl | simp))
  case hend =>
    intro f w3 hC hall
    clear HA19 HA23 HA27 HA30 HA34
    simp only [List.forall_mem_cons] at hall
    obtain ⟨h13, h14, h15, h16, h17, h18, h19, h20, h21, h22, h23, h24, h25, h26, h27, h28, h29, h30, h31, h32, h33, h34, h9, _⟩ := hall
    replace h13 : f 13 = .string nm := h13 13 rfl
    replace h14 : f 14 = .string qn := h14 14 rfl
    replace h15 : f 15 = .string fn := h15 15 rfl
    replace h16 : f 16 = .pointer (some ⟨w.heap.size, 3, none⟩) := h16 16 rfl
    replace h17 : f 17 = .int .i64 m := h17 17 rfl
    replace h18 : f 18 = .string om := h18 18 rfl
    replace h19 : f 19 = .string x19 := h19 19 rfl
    replace h20 : f 20 = .pointer (some ⟨w.heap.size, 4, none⟩) := h20 20 rfl
    replace h21 : f 21 = .int .i64 u := h21 21 rfl
    replace h22 : f 22 = .string ou := h22 22 rfl
    replace h23 : f 23 = .string x23 := h23 23 rfl
    replace h24 : f 24 = .pointer (some ⟨w.heap.size, 5, none⟩) := h24 24 rfl
    replace h25 : f 25 = .int .i64 g := h25 25 rfl
    replace h26 : f 26 = .string og := h26 26 rfl
    replace h27 : f 27 = .string x27 := h27 27 rfl
    replace h28 : f 28 = .int .i64 sz := h28 28 rfl
    replace h29 : f 29 = .string os := h29 29 rfl
    replace h30 : f 30 = .string x30 := h30 30 rfl
    replace h31 : f 31 = .pointer (some ⟨w.heap.size, 6, none⟩) := h31 31 rfl
    replace h32 : f 32 = .int .i64 t := h32 32 rfl
    replace h33 : f 33 = .string ot := h33 33 rfl
    replace h34 : f 34 = .string x34 := h34 34 rfl
    replace h9 : f 9 = .string x34 := h9 9 rfl
    simp only [putAll, Act.put, List.setIfInBounds_toArray, List.set_cons_succ, List.set_cons_zero, h13, h14, h15, h16, h17, h18, h19, h20, h21, h22, h23, h24, h25, h26, h27, h28, h29, h30, h31, h32, h33, h34, h9]
    clear h13 h14 h15 h16 h17 h18 h19 h20 h21 h22 h23 h24 h25 h26 h27 h28 h29 h30 h31 h32 h33 h34 h9
    have HXA : Hid (hA = x34) := Lib.hid (by rw [HEA.out, HX34.out, HX30.out, HX27.out, HX23.out, HX19.out])
    have E3 := Lib.hid (E1.out.below hC z0)
    have B3 := Lib.hid (btE B1.out hC)
    replace z0 := Nat.lt_of_lt_of_le z0 hC.size
    clear hC KC E1 B1 HX19 HX23 HX27 HX30 HX34
    go_wp2_with fail
    have KC : Hid (∀ w', Below w3.heap.size w3 w' → w'.cell? ⟨w.heap.size, 1, none⟩ = some (.string p) ∧ w'.cell? ⟨w.heap.size, 2, none⟩ = some (.string l) ∧ w'.cell? ⟨w.heap.size, 3, none⟩ = some (.int .i64 m) ∧ w'.cell? ⟨w.heap.size, 4, none⟩ = some (.int .i64 u) ∧ w'.cell? ⟨w.heap.size, 5, none⟩ = some (.int .i64 g) ∧ w'.cell? ⟨w.heap.size, 6, none⟩ = some (.int .i64 t) ∧ w'.cell? ⟨w.heap.size, 7, none⟩ = some (.string us) ∧ w'.cell? ⟨w.heap.size, 8, none⟩ = some (.string gr)) := Lib.hid (fun w' hb => by obtain ⟨c0, c1, c2, c3, c4, c5, c6, c7, c8, c9⟩ := (E3.out.below hb z0).zero; exact ⟨c1, c2, c3, c4, c5, c6, c7, c8⟩)
    obtain ⟨x40, hx40⟩ : ∃ x : ByteArray, x = fl ++ fll := ⟨_, rfl⟩
    obtain ⟨x41, hx41⟩ : ∃ x : ByteArray, x = x40 ++ ⟨#[117, 115, 116, 97, 114, 32, 32, 0]⟩ := ⟨_, rfl⟩
    obtain ⟨x45, hx45⟩ : ∃ x : ByteArray, x = x41 ++ fu := ⟨_, rfl⟩
    obtain ⟨x49, hx49⟩ : ∃ x : ByteArray, x = x45 ++ fg := ⟨_, rfl⟩
    obtain ⟨x51, hx51⟩ : ∃ x : ByteArray, x = x49 ++ o0 := ⟨_, rfl⟩
    obtain ⟨x53, hx53⟩ : ∃ x : ByteArray, x = x51 ++ o0 := ⟨_, rfl⟩
    obtain ⟨x55, hx55⟩ : ∃ x : ByteArray, x = x53 ++ z12 := ⟨_, rfl⟩
    have zx40 : x40.size ≤ 200100 := by rw [hx40, ByteArray.size_append]; omega
    have zx41 : x41.size ≤ 200108 := by rw [hx41, ByteArray.size_append]; omega
    have zx45 : x45.size ≤ 300140 := by rw [hx45, ByteArray.size_append]; omega
    have zx49 : x49.size ≤ 400172 := by rw [hx49, ByteArray.size_append]; omega
    have zx51 : x51.size ≤ 400193 := by rw [hx51, ByteArray.size_append]; omega
    have zx53 : x53.size ≤ 400214 := by rw [hx53, ByteArray.size_append]; omega
    have zx55 : x55.size ≤ 400381 := by rw [hx55, ByteArray.size_append]; omega
    have HA40 : Hid (∀ w, (Op.stringOp .add fl fll).run Tryz.prog w = .ok (.string x40) w) := Lib.hid (fun w => by rw [hx40]; exact run_string_add_sum w _ _ (by omega))
    have HA41 : Hid (∀ w, (Op.stringOp .add x40 ⟨#[117, 115, 116, 97, 114, 32, 32, 0]⟩).run Tryz.prog w = .ok (.string x41) w) := Lib.hid (fun w => by rw [hx41]; exact run_string_add_sum w _ _ (by omega))
    have HA45 : Hid (∀ w, (Op.stringOp .add x41 fu).run Tryz.prog w = .ok (.string x45) w) := Lib.hid (fun w => by rw [hx45]; exact run_string_add_sum w _ _ (by omega))
    have HA49 : Hid (∀ w, (Op.stringOp .add x45 fg).run Tryz.prog w = .ok (.string x49) w) := Lib.hid (fun w => by rw [hx49]; exact run_string_add_sum w _ _ (by omega))
    have HA51 : Hid (∀ w, (Op.stringOp .add x49 o0).run Tryz.prog w = .ok (.string x51) w) := Lib.hid (fun w => by rw [hx51]; exact run_string_add_sum w _ _ (by omega))
    have HA53 : Hid (∀ w, (Op.stringOp .add x51 o0).run Tryz.prog w = .ok (.string x53) w) := Lib.hid (fun w => by rw [hx53]; exact run_string_add_sum w _ _ (by omega))
    have HA55 : Hid (∀ w, (Op.stringOp .add x53 z12).run Tryz.prog w = .ok (.string x55) w) := Lib.hid (fun w => by rw [hx55]; exact run_string_add_sum w _ _ (by omega))
    have HX40 := Lib.hid hx40
    have HX41 := Lib.hid hx41
    have HX45 := Lib.hid hx45
    have HX49 := Lib.hid hx49
    have HX51 := Lib.hid hx51
    have HX53 := Lib.hid hx53
    have HX55 := Lib.hid hx55
    clear hx40 hx41 hx45 hx49 hx51 hx53 hx55
    refine wp_region_inv (by kernel_rfl) (fun w' => Below w3.heap.size w3 w') (fun x y => Below x.heap.size x y) (fun d v _ => match d with | 35 => v = .string fl | 36 => v = .pointer (some ⟨w.heap.size, 2, none⟩) | 37 => v = .string l | 38 => v = .string ql | 39 => v = .string fll | 40 => v = .string x40 | 41 => v = .string x41 | 42 => v = .pointer (some ⟨w.heap.size, 7, none⟩) | 43 => v = .string us | 44 => v = .string fu | 45 => v = .string x45 | 46 => v = .pointer (some ⟨w.heap.size, 8, none⟩) | 47 => v = .string gr | 48 => v = .string fg | 49 => v = .string x49 | 50 => v = .string o0 | 51 => v = .string x51 | 52 => v = .string o0 | 53 => v = .string x53 | 54 => v = .string z12 | 55 => v = .string x55 | 10 => v = .string x55 | _ => True) (by kernel_rfl) ((Below.refl _ _).drew) (fun _ _ _ _ _ _ h => h) ?hops ?hend
    case hops =>
      simp only [List.forall_mem_cons]
      refine ⟨?o35, ?o36, ?o37, ?o38, ?o39, ?o40, ?o41, ?o42, ?o43, ?o44, ?o45, ?o46, ?o47, ?o48, ?o49, ?o50, ?o51, ?o52, ?o53, ?o54, ?o55, ?o10, fun _ h => by cases h⟩
      case o35 =>
        intro Q a w2 hC hV hI
        have e2 : a.eval (.tmp 2) = .string fl := (hI 2 (by simp [Op.operands]) (by kernel_rfl)).trans rfl
        have f2 : a.tmps.getD 2 undef = .string fl := e2
        have g2 : a.tmps[2]?.getD undef = .string fl := by rw [← Array.getD_eq_getD_getElem?]; exact e2
        refine op_val (.string fl) ?_ hC (Below.refl _ _) (by intro d hd; cases hd; rfl)
        (clear hV hI hC; go_simp <;> (first | rfl | simp))
      case o36 =>
        intro Q a w2 hC hV hI
        have e5 : a.eval (.tmp 5) = .pointer (some ⟨w.heap.size, 0, none⟩) := (hI 5 (by simp [Op.operands]) (by kernel_rfl)).trans rfl
        have f5 : a.tmps.getD 5 undef = .pointer (some ⟨w.heap.size, 0, none⟩) := e5
        have g5 : a.tmps[5]?.getD undef = .pointer (some ⟨w.heap.size, 0, none⟩) := by rw [← Array.getD_eq_getD_getElem?]; exact e5
        refine op_val (.pointer (some ⟨w.heap.size, 2, none⟩)) ?_ hC (Below.refl _ _) (by intro d hd; cases hd; rfl)
        (clear hV hI hC; go_simp <;> (first | rfl | simp))
      case o37 =>
        intro Q a w2 hC hV hI
        have e36 : a.eval (.tmp 36) = .pointer (some ⟨w.heap.size, 2, none⟩) := hV 36 (by simp [Op.operands]) (by kernel_rfl)
        have f36 : a.tmps.getD 36 undef = .pointer (some ⟨w.heap.size, 2, none⟩) := e36
        have g36 : a.tmps[36]?.getD undef = .pointer (some ⟨w.heap.size, 2, none⟩) := by rw [← Array.getD_eq_getD_getElem?]; exact e36
        have hK := KC.out w2 hC
        refine op_val (.string l) ?_ hC (Below.refl _ _) (by intro d hd; cases hd; rfl)
        (clear hV hI hC; go_simp <;> (first | rfl | simp))
      case o38 =>
        intro Q a w2 hC hV hI
        have e37 : a.eval (.tmp 37) = .string l := hV 37 (by simp [Op.operands, Call.operands]) (by kernel_rfl)
        have f37 : a.tmps.getD 37 undef = .string l := e37
        have g37 : a.tmps[37]?.getD undef = .string l := by rw [← Array.getD_eq_getD_getElem?]; exact e37
        refine op_call (f := 63) (args := #[.string l, .int .i64 100]) (R := fun v y => v = .string ql ∧ w2 = y) ?_ ((HQl.out w2).mono ?_) ?_
        · (clear hV hI hC; go_simp <;> (first | rfl | simp))
        · rintro e y ⟨rfl, rfl⟩; exact ⟨_, rfl, rfl, rfl⟩
        · rintro v y ⟨rfl, rfl⟩; exact ⟨hC, Below.refl _ _, by intro d hd; cases hd; rfl⟩
      case o39 =>
        intro Q a w2 hC hV hI
        have e38 : a.eval (.tmp 38) = .string ql := hV 38 (by simp [Op.operands, Call.operands]) (by kernel_rfl)
        have f38 : a.tmps.getD 38 undef = .string ql := e38
        have g38 : a.tmps[38]?.getD undef = .string ql := by rw [← Array.getD_eq_getD_getElem?]; exact e38
        refine op_call (f := 62) (args := #[.string ql, .int .i64 100]) (R := fun v y => v = .string fll ∧ Below w2.heap.size w2 y) ?_ ((HLk.out w2).mono ?_) ?_
        · (clear hV hI hC; go_simp <;> (first | rfl | simp))
        · rintro e y ⟨rfl, hb⟩; exact ⟨_, rfl, rfl, hb⟩
        · rintro v y ⟨rfl, hb⟩; exact ⟨hC.trans (hb.mono hC.size), hb, by intro d hd; cases hd; rfl⟩
      case o40 =>
        intro Q a w2 hC hV hI
        have e35 : a.eval (.tmp 35) = .string fl := hV 35 (by simp [Op.operands]) (by kernel_rfl)
        have f35 : a.tmps.getD 35 undef = .string fl := e35
        have g35 : a.tmps[35]?.getD undef = .string fl := by rw [← Array.getD_eq_getD_getElem?]; exact e35
        have e39 : a.eval (.tmp 39) = .string fll := hV 39 (by simp [Op.operands]) (by kernel_rfl)
        have f39 : a.tmps.getD 39 undef = .string fll := e39
        have g39 : a.tmps[39]?.getD undef = .string fll := by rw [← Array.getD_eq_getD_getElem?]; exact e39
        refine op_val (.string x40) ?_ hC (Below.refl _ _) (by intro d hd; cases hd; rfl)
        have q := HA40.out w2
        (clear hV hI hC; go_simp <;> (first | rfl | simp))
      case o41 =>
        intro Q a w2 hC hV hI
        have e40 : a.eval (.tmp 40) = .string x40 := hV 40 (by simp [Op.operands]) (by kernel_rfl)
        have f40 : a.tmps.getD 40 undef = .string x40 := e40
        have g40 : a.tmps[40]?.getD undef = .string x40 := by rw [← Array.getD_eq_getD_getElem?]; exact e40
        refine op_val (.string x41) ?_ hC (Below.refl _ _) (by intro d hd; cases hd; rfl)
        have q := HA41.out w2
        (clear hV hI hC; go_simp <;> (first | rfl | simp))
      case o42 =>
        intro Q a w2 hC hV hI
        have e5 : a.eval (.tmp 5) = .pointer (some ⟨w.heap.size, 0, none⟩) := (hI 5 (by simp [Op.operands]) (by kernel_rfl)).trans rfl
        have f5 : a.tmps.getD 5 undef = .pointer (some ⟨w.heap.size, 0, none⟩) := e5
        have g5 : a.tmps[5]?.getD undef = .pointer (some ⟨w.heap.size, 0, none⟩) := by rw [← Array.getD_eq_getD_getElem?]; exact e5
        refine op_val (.pointer (some ⟨w.heap.size, 7, none⟩)) ?_ hC (Below.refl _ _) (by intro d hd; cases hd; rfl)
        (clear hV hI hC; go_simp <;> (first | rfl | simp))
      case o43 =>
        intro Q a w2 hC hV hI
        have e42 : a.eval (.tmp 42) = .pointer (some ⟨w.heap.size, 7, none⟩) := hV 42 (by simp [Op.operands]) (by kernel_rfl)
        have f42 : a.tmps.getD 42 undef = .pointer (some ⟨w.heap.size, 7, none⟩) := e42
        have g42 : a.tmps[42]?.getD undef = .pointer (some ⟨w.heap.size, 7, none⟩) := by rw [← Array.getD_eq_getD_getElem?]; exact e42
        have hK := KC.out w2 hC
        refine op_val (.string us) ?_ hC (Below.refl _ _) (by intro d hd; cases hd; rfl)
        (clear hV hI hC; go_simp <;> (first | rfl | simp))
      case o44 =>
        intro Q a w2 hC hV hI
        have e43 : a.eval (.tmp 43) = .string us := hV 43 (by simp [Op.operands, Call.operands]) (by kernel_rfl)
        have f43 : a.tmps.getD 43 undef = .string us := e43
        have g43 : a.tmps[43]?.getD undef = .string us := by rw [← Array.getD_eq_getD_getElem?]; exact e43
        refine op_call (f := 62) (args := #[.string us, .int .i64 32]) (R := fun v y => v = .string fu ∧ Below w2.heap.size w2 y) ?_ ((HU.out w2).mono ?_) ?_
        · (clear hV hI hC; go_simp <;> (first | rfl | simp))
        · rintro e y ⟨rfl, hb⟩; exact ⟨_, rfl, rfl, hb⟩
        · rintro v y ⟨rfl, hb⟩; exact ⟨hC.trans (hb.mono hC.size), hb, by intro d hd; cases hd; rfl⟩
      case o45 =>
        intro Q a w2 hC hV hI
        have e41 : a.eval (.tmp 41) = .string x41 := hV 41 (by simp [Op.operands]) (by kernel_rfl)
        have f41 : a.tmps.getD 41 undef = .string x41 := e41
        have g41 : a.tmps[41]?.getD undef = .string x41 := by rw [← Array.getD_eq_getD_getElem?]; exact e41
        have e44 : a.eval (.tmp 44) = .string fu := hV 44 (by simp [Op.operands]) (by kernel_rfl)
        have f44 : a.tmps.getD 44 undef = .string fu := e44
        have g44 : a.tmps[44]?.getD undef = .string fu := by rw [← Array.getD_eq_getD_getElem?]; exact e44
        refine op_val (.string x45) ?_ hC (Below.refl _ _) (by intro d hd; cases hd; rfl)
        have q := HA45.out w2
        (clear hV hI hC; go_simp <;> (first | rfl | simp))
      case o46 =>
        intro Q a w2 hC hV hI
        have e5 : a.eval (.tmp 5) = .pointer (some ⟨w.heap.size, 0, none⟩) := (hI 5 (by simp [Op.operands]) (by kernel_rfl)).trans rfl
        have f5 : a.tmps.getD 5 undef = .pointer (some ⟨w.heap.size, 0, none⟩) := e5
        have g5 : a.tmps[5]?.getD undef = .pointer (some ⟨w.heap.size, 0, none⟩) := by rw [← Array.getD_eq_getD_getElem?]; exact e5
        refine op_val (.pointer (some ⟨w.heap.size, 8, none⟩)) ?_ hC (Below.refl _ _) (by intro d hd; cases hd; rfl)
        (clear hV hI hC; go_simp <;> (first | rfl | simp))
      case o47 =>
        intro Q a w2 hC hV hI
        have e46 : a.eval (.tmp 46) = .pointer (some ⟨w.heap.size, 8, none⟩) := hV 46 (by simp [Op.operands]) (by kernel_rfl)
        have f46 : a.tmps.getD 46 undef = .pointer (some ⟨w.heap.size, 8, none⟩) := e46
        have g46 : a.tmps[46]?.getD undef = .pointer (some ⟨w.heap.size, 8, none⟩) := by rw [← Array.getD_eq_getD_getElem?]; exact e46
        have hK := KC.out w2 hC
        refine op_val (.string gr) ?_ hC (Below.refl _ _) (by intro d hd; cases hd; rfl)
        (clear hV hI hC; go_simp <;> (first | rfl | simp))
      case o48 =>
        intro Q a w2 hC hV hI
        have e47 : a.eval (.tmp 47) = .string gr := hV 47 (by simp [Op.operands, Call.operands]) (by kernel_rfl)
        have f47 : a.tmps.getD 47 undef = .string gr := e47
        have g47 : a.tmps[47]?.getD undef = .string gr := by rw [← Array.getD_eq_getD_getElem?]; exact e47
        refine op_call (f := 62) (args := #[.string gr, .int .i64 32]) (R := fun v y => v = .string fg ∧ Below w2.heap.size w2 y) ?_ ((HG.out w2).mono ?_) ?_
        · (clear hV hI hC; go_simp <;> (first | rfl | simp))
        · rintro e y ⟨rfl, hb⟩; exact ⟨_, rfl, rfl, hb⟩
        · rintro v y ⟨rfl, hb⟩; exact ⟨hC.trans (hb.mono hC.size), hb, by intro d hd; cases hd; rfl⟩
      case o49 =>
        intro Q a w2 hC hV hI
        have e45 : a.eval (.tmp 45) = .string x45 := hV 45 (by simp [Op.operands]) (by kernel_rfl)
        have f45 : a.tmps.getD 45 undef = .string x45 := e45
        have g45 : a.tmps[45]?.getD undef = .string x45 := by rw [← Array.getD_eq_getD_getElem?]; exact e45
        have e48 : a.eval (.tmp 48) = .string fg := hV 48 (by simp [Op.operands]) (by kernel_rfl)
        have f48 : a.tmps.getD 48 undef = .string fg := e48
        have g48 : a.tmps[48]?.getD undef = .string fg := by rw [← Array.getD_eq_getD_getElem?]; exact e48
        refine op_val (.string x49) ?_ hC (Below.refl _ _) (by intro d hd; cases hd; rfl)
        have q := HA49.out w2
        (clear hV hI hC; go_simp <;> (first | rfl | simp))
      case o50 =>
        intro Q a w2 hC hV hI
        refine op_call (f := 64) (args := #[.int .i64 0, .int .i64 8]) (R := fun v y => v = .string o0 ∧ w2 = y) ?_ ((HO0.out w2).mono ?_) ?_
        · (clear hV hI hC; go_simp <;> (first | rfl | simp))
        · rintro e y ⟨rfl, rfl⟩; exact ⟨_, rfl, rfl, rfl⟩
        · rintro v y ⟨rfl, rfl⟩; exact ⟨hC, Below.refl _ _, by intro d hd; cases hd; rfl⟩
      case o51 =>
        intro Q a w2 hC hV hI
        have e49 : a.eval (.tmp 49) = .string x49 := hV 49 (by simp [Op.operands]) (by kernel_rfl)
        have f49 : a.tmps.getD 49 undef = .string x49 := e49
        have g49 : a.tmps[49]?.getD undef = .string x49 := by rw [← Array.getD_eq_getD_getElem?]; exact e49
        have e50 : a.eval (.tmp 50) = .string o0 := hV 50 (by simp [Op.operands]) (by kernel_rfl)
        have f50 : a.tmps.getD 50 undef = .string o0 := e50
        have g50 : a.tmps[50]?.getD undef = .string o0 := by rw [← Array.getD_eq_getD_getElem?]; exact e50
        refine op_val (.string x51) ?_ hC (Below.refl _ _) (by intro d hd; cases hd; rfl)
        have q := HA51.out w2
        (clear hV hI hC; go_simp <;> (first | rfl | simp))
      case o52 =>
        intro Q a w2 hC hV hI
        refine op_call (f := 64) (args := #[.int .i64 0, .int .i64 8]) (R := fun v y => v = .string o0 ∧ w2 = y) ?_ ((HO0.out w2).mono ?_) ?_
        · (clear hV hI hC; go_simp <;> (first | rfl | simp))
        · rintro e y ⟨rfl, rfl⟩; exact ⟨_, rfl, rfl, rfl⟩
        · rintro v y ⟨rfl, rfl⟩; exact ⟨hC, Below.refl _ _, by intro d hd; cases hd; rfl⟩
      case o53 =>
        intro Q a w2 hC hV hI
        have e51 : a.eval (.tmp 51) = .string x51 := hV 51 (by simp [Op.operands]) (by kernel_rfl)
        have f51 : a.tmps.getD 51 undef = .string x51 := e51
        have g51 : a.tmps[51]?.getD undef = .string x51 := by rw [← Array.getD_eq_getD_getElem?]; exact e51
        have e52 : a.eval (.tmp 52) = .string o0 := hV 52 (by simp [Op.operands]) (by kernel_rfl)
        have f52 : a.tmps.getD 52 undef = .string o0 := e52
        have g52 : a.tmps[52]?.getD undef = .string o0 := by rw [← Array.getD_eq_getD_getElem?]; exact e52
        refine op_val (.string x53) ?_ hC (Below.refl _ _) (by intro d hd; cases hd; rfl)
        have q := HA53.out w2
        (clear hV hI hC; go_simp <;> (first | rfl | simp))
      case o54 =>
        intro Q a w2 hC hV hI
        refine op_call (f := 66) (args := #[.int .i64 167]) (R := fun v y => v = .string z12 ∧ Below w2.heap.size w2 y) ?_ ((HZ.out w2).mono ?_) ?_
        · (clear hV hI hC; go_simp <;> (first | rfl | simp))
        · rintro e y ⟨rfl, hb⟩; exact ⟨_, rfl, rfl, hb⟩
        · rintro v y ⟨rfl, hb⟩; exact ⟨hC.trans (hb.mono hC.size), hb, by intro d hd; cases hd; rfl⟩
      case o55 =>
        intro Q a w2 hC hV hI
        have e53 : a.eval (.tmp 53) = .string x53 := hV 53 (by simp [Op.operands]) (by kernel_rfl)
        have f53 : a.tmps.getD 53 undef = .string x53 := e53
        have g53 : a.tmps[53]?.getD undef = .string x53 := by rw [← Array.getD_eq_getD_getElem?]; exact e53
        have e54 : a.eval (.tmp 54) = .string z12 := hV 54 (by simp [Op.operands]) (by kernel_rfl)
        have f54 : a.tmps.getD 54 undef = .string z12 := e54
        have g54 : a.tmps[54]?.getD undef = .string z12 := by rw [← Array.getD_eq_getD_getElem?]; exact e54
        refine op_val (.string x55) ?_ hC (Below.refl _ _) (by intro d hd; cases hd; rfl)
        have q := HA55.out w2
        (clear hV hI hC; go_simp <;> (first | rfl | simp))
      case o10 =>
        intro Q a w2 hC hV hI
        have e55 : a.eval (.tmp 55) = .string x55 := hV 55 (by simp [Op.operands]) (by kernel_rfl)
        have f55 : a.tmps.getD 55 undef = .string x55 := e55
        have g55 : a.tmps[55]?.getD undef = .string x55 := by rw [← Array.getD_eq_getD_getElem?]; exact e55
        refine op_val (.string x55) ?_ hC (Below.refl _ _) (by intro d hd; cases hd; rfl)
        (clear hV hI hC; go_simp <;> (first | rfl | simp))
    case hend =>
      intro f w4 hC hall
      clear HA40 HA41 HA45 HA49 HA51 HA53 HA55
      simp only [List.forall_mem_cons] at hall
      obtain ⟨h35, h36, h37, h38, h39, h40, h41, h42, h43, h44, h45, h46, h47, h48, h49, h50, h51, h52, h53, h54, h55, h10, _⟩ := hall
      replace h35 : f 35 = .string fl := h35 35 rfl
      replace h36 : f 36 = .pointer (some ⟨w.heap.size, 2, none⟩) := h36 36 rfl
      replace h37 : f 37 = .string l := h37 37 rfl
      replace h38 : f 38 = .string ql := h38 38 rfl
      replace h39 : f 39 = .string fll := h39 39 rfl
      replace h40 : f 40 = .string x40 := h40 40 rfl
      replace h41 : f 41 = .string x41 := h41 41 rfl
      replace h42 : f 42 = .pointer (some ⟨w.heap.size, 7, none⟩) := h42 42 rfl
      replace h43 : f 43 = .string us := h43 43 rfl
      replace h44 : f 44 = .string fu := h44 44 rfl
      replace h45 : f 45 = .string x45 := h45 45 rfl
      replace h46 : f 46 = .pointer (some ⟨w.heap.size, 8, none⟩) := h46 46 rfl
      replace h47 : f 47 = .string gr := h47 47 rfl
      replace h48 : f 48 = .string fg := h48 48 rfl
      replace h49 : f 49 = .string x49 := h49 49 rfl
      replace h50 : f 50 = .string o0 := h50 50 rfl
      replace h51 : f 51 = .string x51 := h51 51 rfl
      replace h52 : f 52 = .string o0 := h52 52 rfl
      replace h53 : f 53 = .string x53 := h53 53 rfl
      replace h54 : f 54 = .string z12 := h54 54 rfl
      replace h55 : f 55 = .string x55 := h55 55 rfl
      replace h10 : f 10 = .string x55 := h10 10 rfl
      simp only [putAll, Act.put, List.setIfInBounds_toArray, List.set_cons_succ, List.set_cons_zero, h35, h36, h37, h38, h39, h40, h41, h42, h43, h44, h45, h46, h47, h48, h49, h50, h51, h52, h53, h54, h55, h10]
      clear h35 h36 h37 h38 h39 h40 h41 h42 h43 h44 h45 h46 h47 h48 h49 h50 h51 h52 h53 h54 h55 h10
      have HXB : Hid (hB = x55) := Lib.hid (by rw [HEB.out, HX55.out, HX53.out, HX51.out, HX49.out, HX45.out, HX41.out, HX40.out])
      have B4 := Lib.hid (btE B3.out hC)
      clear hC KC E3 B3 HX40 HX41 HX45 HX49 HX51 HX53 HX55
      rw [HXA.out, HXB.out] at HE
      clear HXA HXB HEA HEB HN HLk HU HG HZ HOm HOu HOg HOs HOt HO0 HQn HQl
      have S1 := Lib.hid (fun w => sum_spec x34 w (by omega))
      have S2 := Lib.hid (fun w => sum_spec x55 w (by omega))
      have b1 := sumv_bd x34.data.toList
      have b2 := sumv_bd x55.data.toList
      have l1 : x34.data.toList.length ≤ 100205 := by simp; omega
      have l2 : x55.data.toList.length ≤ 400381 := by simp; omega
      have S3 := Lib.hid (fun w => putOct_spec (sumv x34.data.toList + 256 + sumv x55.data.toList) 6 w)
      have zo := putOct_size (sumv x34.data.toList + 256 + sumv x55.data.toList) 6
      generalize putOctv (sumv x34.data.toList + 256 + sumv x55.data.toList) 6 = pr at HE S3 zo
      obtain ⟨od, ob⟩ := pr
      simp only at HE S3 zo
      generalize sumv x34.data.toList = s1 at *
      generalize sumv x55.data.toList = s2 at *
      go_wp2_with fail
      refine (S1.out _).mono ?_
      rintro e w5 ⟨rfl, rfl⟩
      go_wp2_with fail
      refine (S2.out _).mono ?_
      rintro e w5 ⟨rfl, rfl⟩
      go_wp2_with fail
      refine (S3.out _).mono ?_
      rintro e w5 ⟨rfl, rfl⟩
      have zc : (x34 ++ od).size ≤ 100225 := by rw [ByteArray.size_append]; omega
      have zc2 : (x34 ++ od ++ (⟨#[0, 32]⟩ : ByteArray)).size ≤ 100227 := by rw [ByteArray.size_append]; have : (⟨#[0, 32]⟩ : ByteArray).size = 2 := rfl; omega
      go_wp2
      go_ret
      exact ⟨ret_str HE.out.symm, B4.out⟩
end Go.Proofs.YtgpgkgahbkmdiabGreatDoor

/- Contract of spec.GetLong. -/
namespace Go.Proofs.YtgpgkgahbkmdiabGreatDoor
open Go.ChangeShapes Go.WideShapes Go.ChangeAt Go.RowKit

set_option maxHeartbeats 6400000 in
set_option maxRecDepth 8000 in
theorem getLong_spec (s : ByteArray) (w : World) (hs : s.size ≤ 1048576) :
    Calls Tryz.prog 11 #[.string s] w fun e w' => e = .returned (getLV s) ∧ Below w.heap.size w w' := by
  have B0 := Lib.hid ((Below.refl w.heap.size w).alloc (Nat.le_refl _) (.cells zEnt 23))
  have R0 : Hid ((w.alloc (.cells zEnt 23)).heap[w.heap.size]? = some (.cells zEnt 23 (0, 0))) := Lib.hid (heap_alloc_last _ _)
  have H1 := Lib.hid (fun w => l06Read_spec s w hs)
  by_cases h0 : rdL s = 0
  · rw [readLS, if_pos h0] at H1
    obtain ⟨h512, _, _⟩ := hdcL_good h0
    obtain ⟨b1, b2, b3, b5, b4⟩ := entS_bd h0
    have HE := Lib.hid (getLV_good h0)
    have HEN : Hid (entS s = ⟨0, cutv (s.extract 0 100), cutv (s.extract 157 257), fnumv (s.extract 100 108), (gNum (s.extract 108 116) 2097151).1, (gNum (s.extract 116 124) 2097151).1, (gNum (s.extract 136 148) 8589934591).1, cutv (s.extract 265 297), cutv (s.extract 297 329), ⟨#[]⟩⟩) := Lib.hid rfl
    have zc : ∀ a b : Nat, (cutv (s.extract a b)).size ≤ b - a := fun a b => Nat.le_trans (cutv_le _) (by rw [ByteArray.size_extract]; omega)
    have zp := zc 0 100
    have zl := zc 157 257
    have zu := zc 265 297
    have zgr := zc 297 329
    have zf : (s.extract 156 157).size ≤ 1 := by rw [ByteArray.size_extract]; omega
    rw [HEN.out] at HE H1
    clear zc HEN
    generalize cutv (s.extract 0 100) = pth at *
    generalize cutv (s.extract 157 257) = lk at *
    generalize cutv (s.extract 265 297) = us at *
    generalize cutv (s.extract 297 329) = gr at *
    generalize fnumv (s.extract 100 108) = nm at *
    generalize (gNum (s.extract 108 116) 2097151).1 = nu at *
    generalize (gNum (s.extract 116 124) 2097151).1 = ng at *
    generalize (gNum (s.extract 136 148) 8589934591).1 = nt at *
    generalize fnumv (s.extract 124 136) = nz at *
    generalize s.extract 156 157 = fl at *
    have HPH := Lib.hid (fun w => l06Head_spec 0 pth lk nm nu ng nt us gr ⟨#[]⟩ pth fl nz w (by omega) (by omega) (by omega) (by omega) (by omega) b1 b2 b3 b5 (by omega))
    generalize lhdv ⟨0, pth, lk, nm, nu, ng, nt, us, gr, ⟨#[]⟩⟩ pth fl nz = hd at HE HPH
    have d1 : (512 : Int) ≤ (s.size : Int) := by omega
    clear h0 b1 b2 b3 b4 b5 zp zl zu zgr zf
    go_enter Tryz.func11, Tryz.ntmps11
    go_wp2_with fail
    refine (H1.out _).mono ?_
    rintro e w1 ⟨rfl, hb⟩
    have R1 := (hb.block _ (obj_lt R0.out)).trans R0.out
    have B1 := B0.out.trans (hb.mono B0.out.size)
    have HSn := Lib.hid (run_storeVar_new (P := Tryz.prog) w1 23 zEnt #[.int .i64 0, .string pth, .string lk, .int .i64 nm, .int .i64 nu, .int .i64 ng, .int .i64 nt, .string us, .string gr, .string ⟨#[]⟩] (by rw [Tryz.sizeEnt]; rfl) rfl (by simp [Value.oneCell']))
    have OB := heap_alloc_last w1 (.cells #[.int .i64 0, .string pth, .string lk, .int .i64 nm, .int .i64 nu, .int .i64 ng, .int .i64 nt, .string us, .string gr, .string ⟨#[]⟩] 23)
    have BX := (Below.refl w1.heap.size w1).alloc (Nat.le_refl _) (.cells #[.int .i64 0, .string pth, .string lk, .int .i64 nm, .int .i64 nu, .int .i64 ng, .int .i64 nt, .string us, .string gr, .string ⟨#[]⟩] 23)
    clear hb R0 B0 H1
    go_wp2_with ((with_reducible refine wpList_store_eq rfl 23 _ _ rfl ⟨w1.heap.size, 0, none⟩ ?_ ?_ HSn.out ?_); rfl; rfl)
    clear HSn
    generalize w1.alloc (.cells #[.int .i64 0, .string pth, .string lk, .int .i64 nm, .int .i64 nu, .int .i64 ng, .int .i64 nt, .string us, .string gr, .string ⟨#[]⟩] 23) = w4 at *
    have RO4 := Lib.hid ((BX.block _ (obj_lt R1)).trans R1)
    have B4 := Lib.hid (B1.trans (BX.mono B1.size))
    have zR4 := obj_lt RO4.out
    have OB' := Lib.hid OB
    have KC : Hid (∀ w' : World, Below w4.heap.size w4 w' → w'.cell? ⟨w1.heap.size, 0, none⟩ = some (.int .i64 0) ∧ w'.cell? ⟨w1.heap.size, 1, none⟩ = some (.string pth) ∧ w'.cell? ⟨w1.heap.size, 2, none⟩ = some (.string lk) ∧ w'.cell? ⟨w1.heap.size, 3, none⟩ = some (.int .i64 nm) ∧ w'.cell? ⟨w1.heap.size, 4, none⟩ = some (.int .i64 nu) ∧ w'.cell? ⟨w1.heap.size, 5, none⟩ = some (.int .i64 ng) ∧ w'.cell? ⟨w1.heap.size, 6, none⟩ = some (.int .i64 nt) ∧ w'.cell? ⟨w1.heap.size, 7, none⟩ = some (.string us) ∧ w'.cell? ⟨w1.heap.size, 8, none⟩ = some (.string gr) ∧ w'.cell? ⟨w1.heap.size, 9, none⟩ = some (.string ⟨#[]⟩)) := Lib.hid (fun w' hb => by
      have h1 := (hb.block _ (obj_lt OB'.out)).trans OB'.out
      refine ⟨?_, ?_, ?_, ?_, ?_, ?_, ?_, ?_, ?_, ?_⟩ <;> (rw [cell_of_row _ _ _ _ _ _ h1]; rfl))
    clear OB BX R1 B1
    by_cases hq : hd = s.extract 0 512
    · have q := ba_eq hq
      have HE2 := Lib.hid (HE.out.trans (if_pos hq))
      clear HE hq
      refine wp_region_inv (by kernel_rfl) (fun w' => Below w4.heap.size w4 w') (fun x y => Below x.heap.size x y) (fun d v _ => match d with | 21 => v = .pointer (some ⟨w1.heap.size, 1, none⟩) | 22 => v = .string pth | 23 => v = .agg #[.int .i64 0, .string pth, .string lk, .int .i64 nm, .int .i64 nu, .int .i64 ng, .int .i64 nt, .string us, .string gr, .string ⟨#[]⟩] | 24 => v = .string fl | 25 => v = .int .i64 nz | 26 => v = .string hd | 27 => v = .string s | 28 => v = .string (s.extract 0 512) | 29 => v = .bool false | _ => True) (by kernel_rfl) ((Below.refl _ _).drew) (fun _ _ _ _ _ _ h => h) ?hops ?hend
      case hops =>
        simp only [List.forall_mem_cons]
        refine ⟨?o21, ?o22, ?o23, ?o24, ?o25, ?o26, ?o27, ?o28, ?o29, fun _ h => by cases h⟩
        case o21 =>
          intro Q a w2 hC hV hI
          have e6 : a.eval (.tmp 6) = .pointer (some ⟨w1.heap.size, 0, none⟩) := (hI 6 (by simp [Op.operands]) (by kernel_rfl)).trans rfl
          have f6 : a.tmps.getD 6 undef = .pointer (some ⟨w1.heap.size, 0, none⟩) := e6
          have g6 : a.tmps[6]?.getD undef = .pointer (some ⟨w1.heap.size, 0, none⟩) := by rw [← Array.getD_eq_getD_getElem?]; exact e6
          refine op_val (.pointer (some ⟨w1.heap.size, 1, none⟩)) ?_ hC (Below.refl _ _) (by intro d hd; cases hd; rfl)
          (clear hV hI hC; go_simp <;> (first | rfl | simp))
        case o22 =>
          intro Q a w2 hC hV hI
          have e21 : a.eval (.tmp 21) = .pointer (some ⟨w1.heap.size, 1, none⟩) := hV 21 (by simp [Op.operands]) (by kernel_rfl)
          have f21 : a.tmps.getD 21 undef = .pointer (some ⟨w1.heap.size, 1, none⟩) := e21
          have g21 : a.tmps[21]?.getD undef = .pointer (some ⟨w1.heap.size, 1, none⟩) := by rw [← Array.getD_eq_getD_getElem?]; exact e21
          have hK := KC.out w2 hC
          refine op_val (.string pth) ?_ hC (Below.refl _ _) (by intro d hd; cases hd; rfl)
          (clear hV hI hC; go_simp <;> (first | rfl | simp))
        case o23 =>
          intro Q a w2 hC hV hI
          have e6 : a.eval (.tmp 6) = .pointer (some ⟨w1.heap.size, 0, none⟩) := (hI 6 (by simp [Op.operands]) (by kernel_rfl)).trans rfl
          have f6 : a.tmps.getD 6 undef = .pointer (some ⟨w1.heap.size, 0, none⟩) := e6
          have g6 : a.tmps[6]?.getD undef = .pointer (some ⟨w1.heap.size, 0, none⟩) := by rw [← Array.getD_eq_getD_getElem?]; exact e6
          have hK := KC.out w2 hC
          refine op_val (.agg #[.int .i64 0, .string pth, .string lk, .int .i64 nm, .int .i64 nu, .int .i64 ng, .int .i64 nt, .string us, .string gr, .string ⟨#[]⟩]) ?_ hC (Below.refl _ _) (by intro d hd; cases hd; rfl)
          (clear hV hI hC; go_simp <;> (first | rfl | simp))
        case o24 =>
          intro Q a w2 hC hV hI
          have e7 : a.eval (.tmp 7) = .string fl := (hI 7 (by simp [Op.operands]) (by kernel_rfl)).trans rfl
          have f7 : a.tmps.getD 7 undef = .string fl := e7
          have g7 : a.tmps[7]?.getD undef = .string fl := by rw [← Array.getD_eq_getD_getElem?]; exact e7
          refine op_val (.string fl) ?_ hC (Below.refl _ _) (by intro d hd; cases hd; rfl)
          (clear hV hI hC; go_simp <;> (first | rfl | simp))
        case o25 =>
          intro Q a w2 hC hV hI
          have e8 : a.eval (.tmp 8) = .int .i64 nz := (hI 8 (by simp [Op.operands]) (by kernel_rfl)).trans rfl
          have f8 : a.tmps.getD 8 undef = .int .i64 nz := e8
          have g8 : a.tmps[8]?.getD undef = .int .i64 nz := by rw [← Array.getD_eq_getD_getElem?]; exact e8
          refine op_val (.int .i64 nz) ?_ hC (Below.refl _ _) (by intro d hd; cases hd; rfl)
          (clear hV hI hC; go_simp <;> (first | rfl | simp))
        case o26 =>
          intro Q a w2 hC hV hI
          have e22 : a.eval (.tmp 22) = .string pth := hV 22 (by simp [Op.operands, Call.operands]) (by kernel_rfl)
          have f22 : a.tmps.getD 22 undef = .string pth := e22
          have g22 : a.tmps[22]?.getD undef = .string pth := by rw [← Array.getD_eq_getD_getElem?]; exact e22
          have e23 : a.eval (.tmp 23) = .agg #[.int .i64 0, .string pth, .string lk, .int .i64 nm, .int .i64 nu, .int .i64 ng, .int .i64 nt, .string us, .string gr, .string ⟨#[]⟩] := hV 23 (by simp [Op.operands, Call.operands]) (by kernel_rfl)
          have f23 : a.tmps.getD 23 undef = .agg #[.int .i64 0, .string pth, .string lk, .int .i64 nm, .int .i64 nu, .int .i64 ng, .int .i64 nt, .string us, .string gr, .string ⟨#[]⟩] := e23
          have g23 : a.tmps[23]?.getD undef = .agg #[.int .i64 0, .string pth, .string lk, .int .i64 nm, .int .i64 nu, .int .i64 ng, .int .i64 nt, .string us, .string gr, .string ⟨#[]⟩] := by rw [← Array.getD_eq_getD_getElem?]; exact e23
          have e24 : a.eval (.tmp 24) = .string fl := hV 24 (by simp [Op.operands, Call.operands]) (by kernel_rfl)
          have f24 : a.tmps.getD 24 undef = .string fl := e24
          have g24 : a.tmps[24]?.getD undef = .string fl := by rw [← Array.getD_eq_getD_getElem?]; exact e24
          have e25 : a.eval (.tmp 25) = .int .i64 nz := hV 25 (by simp [Op.operands, Call.operands]) (by kernel_rfl)
          have f25 : a.tmps.getD 25 undef = .int .i64 nz := e25
          have g25 : a.tmps[25]?.getD undef = .int .i64 nz := by rw [← Array.getD_eq_getD_getElem?]; exact e25
          refine op_call (f := 28) (args := #[.string pth, .agg #[.int .i64 0, .string pth, .string lk, .int .i64 nm, .int .i64 nu, .int .i64 ng, .int .i64 nt, .string us, .string gr, .string ⟨#[]⟩], .string fl, .int .i64 nz]) (R := fun v y => v = .string hd ∧ Below w2.heap.size w2 y) ?_ ((HPH.out w2).mono ?_) ?_
          · (clear hV hI hC; go_simp <;> (first | rfl | simp))
          · rintro e y ⟨rfl, hb⟩; exact ⟨_, rfl, rfl, hb⟩
          · rintro v y ⟨rfl, hb⟩; exact ⟨hC.trans (hb.mono hC.size), hb, by intro d hd; cases hd; rfl⟩
        case o27 =>
          intro Q a w2 hC hV hI
          have e0 : a.eval (.tmp 0) = .string s := (hI 0 (by simp [Op.operands]) (by kernel_rfl)).trans rfl
          have f0 : a.tmps.getD 0 undef = .string s := e0
          have g0 : a.tmps[0]?.getD undef = .string s := by rw [← Array.getD_eq_getD_getElem?]; exact e0
          refine op_val (.string s) ?_ hC (Below.refl _ _) (by intro d hd; cases hd; rfl)
          (clear hV hI hC; go_simp <;> (first | rfl | simp))
        case o28 =>
          intro Q a w2 hC hV hI
          have e27 : a.eval (.tmp 27) = .string s := hV 27 (by simp [Op.operands]) (by kernel_rfl)
          have f27 : a.tmps.getD 27 undef = .string s := e27
          have g27 : a.tmps[27]?.getD undef = .string s := by rw [← Array.getD_eq_getD_getElem?]; exact e27
          refine op_val (.string (s.extract 0 512)) ?_ hC (Below.refl _ _) (by intro d hd; cases hd; rfl)
          (clear hV hI hC; go_simp <;> (first | rfl | simp))
        case o29 =>
          intro Q a w2 hC hV hI
          have e26 : a.eval (.tmp 26) = .string hd := hV 26 (by simp [Op.operands]) (by kernel_rfl)
          have f26 : a.tmps.getD 26 undef = .string hd := e26
          have g26 : a.tmps[26]?.getD undef = .string hd := by rw [← Array.getD_eq_getD_getElem?]; exact e26
          have e28 : a.eval (.tmp 28) = .string (s.extract 0 512) := hV 28 (by simp [Op.operands]) (by kernel_rfl)
          have f28 : a.tmps.getD 28 undef = .string (s.extract 0 512) := e28
          have g28 : a.tmps[28]?.getD undef = .string (s.extract 0 512) := by rw [← Array.getD_eq_getD_getElem?]; exact e28
          refine op_val (.bool false) ?_ hC (Below.refl _ _) (by intro d hd; cases hd; rfl)
          (clear hV hI hC; go_simp <;> (first | rfl | simp))
      case hend =>
        intro f w9 hC hall
        simp only [List.forall_mem_cons] at hall
        obtain ⟨h21, h22, h23, h24, h25, h26, h27, h28, h29, _⟩ := hall
        replace h21 : f 21 = .pointer (some ⟨w1.heap.size, 1, none⟩) := h21 21 rfl
        replace h22 : f 22 = .string pth := h22 22 rfl
        replace h23 : f 23 = .agg #[.int .i64 0, .string pth, .string lk, .int .i64 nm, .int .i64 nu, .int .i64 ng, .int .i64 nt, .string us, .string gr, .string ⟨#[]⟩] := h23 23 rfl
        replace h24 : f 24 = .string fl := h24 24 rfl
        replace h25 : f 25 = .int .i64 nz := h25 25 rfl
        replace h26 : f 26 = .string hd := h26 26 rfl
        replace h27 : f 27 = .string s := h27 27 rfl
        replace h28 : f 28 = .string (s.extract 0 512) := h28 28 rfl
        replace h29 : f 29 = .bool false := h29 29 rfl
        simp only [putAll, Act.put, List.setIfInBounds_toArray, List.set_cons_succ, List.set_cons_zero, h21, h22, h23, h24, h25, h26, h27, h28, h29]
        clear h21 h22 h23 h24 h25 h26 h27 h28 h29
        have h9 := (hC.block _ (obj_lt OB'.out)).trans OB'.out
        have RO9 := Lib.hid ((hC.block _ zR4).trans RO4.out)
        have B9 := Lib.hid (B4.out.trans (hC.mono B4.out.size))
        have HLd := Lib.hid (run_loadVar_row (P := Tryz.prog) _ _ 23 23 _ (0, 0) _ h9 Tryz.underlying23 rfl (by rw [Tryz.sizeEnt]; rfl))
        have HSt := Lib.hid (run_storeVar_row (P := Tryz.prog) _ w.heap.size 23 23 zEnt #[.int .i64 0, .string pth, .string lk, .int .i64 nm, .int .i64 nu, .int .i64 ng, .int .i64 nt, .string us, .string gr, .string ⟨#[]⟩] RO9.out (by rw [Tryz.sizeEnt]; rfl) rfl (by simp [Value.oneCell']))
        clear hC h9
        go_wp2_with (first | ((with_reducible refine wpList_load_eq rfl 23 _ rfl ⟨w1.heap.size, 0, none⟩ ?_ HLd.out ?_); rfl) | ((with_reducible refine wpList_store_eq rfl 23 _ _ rfl ⟨w.heap.size, 0, none⟩ ?_ ?_ HSt.out ?_); rfl; rfl))
        refine bodyPost_ret (results_cell4 rfl _ _ w.heap.size _ #[.int .i64 0, .string pth, .string lk, .int .i64 nm, .int .i64 nu, .int .i64 ng, .int .i64 nt, .string us, .string gr, .string ⟨#[]⟩] (0, 0) _ rfl (setRow_heap _ _ _ _ _ _ RO9.out) Tryz.underlying23 rfl (by rw [Tryz.sizeEnt]; rfl)) rfl ?_
        rw [HE2.out]
        exact ⟨rfl, B9.out.trans (below_set (Nat.le_refl _) _)⟩
    · have q := ba_ne hq
      have HE2 := Lib.hid (HE.out.trans (if_neg hq))
      clear HE hq
      refine wp_region_inv (by kernel_rfl) (fun w' => Below w4.heap.size w4 w') (fun x y => Below x.heap.size x y) (fun d v _ => match d with | 21 => v = .pointer (some ⟨w1.heap.size, 1, none⟩) | 22 => v = .string pth | 23 => v = .agg #[.int .i64 0, .string pth, .string lk, .int .i64 nm, .int .i64 nu, .int .i64 ng, .int .i64 nt, .string us, .string gr, .string ⟨#[]⟩] | 24 => v = .string fl | 25 => v = .int .i64 nz | 26 => v = .string hd | 27 => v = .string s | 28 => v = .string (s.extract 0 512) | 29 => v = .bool true | _ => True) (by kernel_rfl) ((Below.refl _ _).drew) (fun _ _ _ _ _ _ h => h) ?hops ?hend
      case hops =>
        simp only [List.forall_mem_cons]
        refine ⟨?o21, ?o22, ?o23, ?o24, ?o25, ?o26, ?o27, ?o28, ?o29, fun _ h => by cases h⟩
        case o21 =>
          intro Q a w2 hC hV hI
          have e6 : a.eval (.tmp 6) = .pointer (some ⟨w1.heap.size, 0, none⟩) := (hI 6 (by simp [Op.operands]) (by kernel_rfl)).trans rfl
          have f6 : a.tmps.getD 6 undef = .pointer (some ⟨w1.heap.size, 0, none⟩) := e6
          have g6 : a.tmps[6]?.getD undef = .pointer (some ⟨w1.heap.size, 0, none⟩) := by rw [← Array.getD_eq_getD_getElem?]; exact e6
          refine op_val (.pointer (some ⟨w1.heap.size, 1, none⟩)) ?_ hC (Below.refl _ _) (by intro d hd; cases hd; rfl)
          (clear hV hI hC; go_simp <;> (first | rfl | simp))
        case o22 =>
          intro Q a w2 hC hV hI
          have e21 : a.eval (.tmp 21) = .pointer (some ⟨w1.heap.size, 1, none⟩) := hV 21 (by simp [Op.operands]) (by kernel_rfl)
          have f21 : a.tmps.getD 21 undef = .pointer (some ⟨w1.heap.size, 1, none⟩) := e21
          have g21 : a.tmps[21]?.getD undef = .pointer (some ⟨w1.heap.size, 1, none⟩) := by rw [← Array.getD_eq_getD_getElem?]; exact e21
          have hK := KC.out w2 hC
          refine op_val (.string pth) ?_ hC (Below.refl _ _) (by intro d hd; cases hd; rfl)
          (clear hV hI hC; go_simp <;> (first | rfl | simp))
        case o23 =>
          intro Q a w2 hC hV hI
          have e6 : a.eval (.tmp 6) = .pointer (some ⟨w1.heap.size, 0, none⟩) := (hI 6 (by simp [Op.operands]) (by kernel_rfl)).trans rfl
          have f6 : a.tmps.getD 6 undef = .pointer (some ⟨w1.heap.size, 0, none⟩) := e6
          have g6 : a.tmps[6]?.getD undef = .pointer (some ⟨w1.heap.size, 0, none⟩) := by rw [← Array.getD_eq_getD_getElem?]; exact e6
          have hK := KC.out w2 hC
          refine op_val (.agg #[.int .i64 0, .string pth, .string lk, .int .i64 nm, .int .i64 nu, .int .i64 ng, .int .i64 nt, .string us, .string gr, .string ⟨#[]⟩]) ?_ hC (Below.refl _ _) (by intro d hd; cases hd; rfl)
          (clear hV hI hC; go_simp <;> (first | rfl | simp))
        case o24 =>
          intro Q a w2 hC hV hI
          have e7 : a.eval (.tmp 7) = .string fl := (hI 7 (by simp [Op.operands]) (by kernel_rfl)).trans rfl
          have f7 : a.tmps.getD 7 undef = .string fl := e7
          have g7 : a.tmps[7]?.getD undef = .string fl := by rw [← Array.getD_eq_getD_getElem?]; exact e7
          refine op_val (.string fl) ?_ hC (Below.refl _ _) (by intro d hd; cases hd; rfl)
          (clear hV hI hC; go_simp <;> (first | rfl | simp))
        case o25 =>
          intro Q a w2 hC hV hI
          have e8 : a.eval (.tmp 8) = .int .i64 nz := (hI 8 (by simp [Op.operands]) (by kernel_rfl)).trans rfl
          have f8 : a.tmps.getD 8 undef = .int .i64 nz := e8
          have g8 : a.tmps[8]?.getD undef = .int .i64 nz := by rw [← Array.getD_eq_getD_getElem?]; exact e8
          refine op_val (.int .i64 nz) ?_ hC (Below.refl _ _) (by intro d hd; cases hd; rfl)
          (clear hV hI hC; go_simp <;> (first | rfl | simp))
        case o26 =>
          intro Q a w2 hC hV hI
          have e22 : a.eval (.tmp 22) = .string pth := hV 22 (by simp [Op.operands, Call.operands]) (by kernel_rfl)
          have f22 : a.tmps.getD 22 undef = .string pth := e22
          have g22 : a.tmps[22]?.getD undef = .string pth := by rw [← Array.getD_eq_getD_getElem?]; exact e22
          have e23 : a.eval (.tmp 23) = .agg #[.int .i64 0, .string pth, .string lk, .int .i64 nm, .int .i64 nu, .int .i64 ng, .int .i64 nt, .string us, .string gr, .string ⟨#[]⟩] := hV 23 (by simp [Op.operands, Call.operands]) (by kernel_rfl)
          have f23 : a.tmps.getD 23 undef = .agg #[.int .i64 0, .string pth, .string lk, .int .i64 nm, .int .i64 nu, .int .i64 ng, .int .i64 nt, .string us, .string gr, .string ⟨#[]⟩] := e23
          have g23 : a.tmps[23]?.getD undef = .agg #[.int .i64 0, .string pth, .string lk, .int .i64 nm, .int .i64 nu, .int .i64 ng, .int .i64 nt, .string us, .string gr, .string ⟨#[]⟩] := by rw [← Array.getD_eq_getD_getElem?]; exact e23
          have e24 : a.eval (.tmp 24) = .string fl := hV 24 (by simp [Op.operands, Call.operands]) (by kernel_rfl)
          have f24 : a.tmps.getD 24 undef = .string fl := e24
          have g24 : a.tmps[24]?.getD undef = .string fl := by rw [← Array.getD_eq_getD_getElem?]; exact e24
          have e25 : a.eval (.tmp 25) = .int .i64 nz := hV 25 (by simp [Op.operands, Call.operands]) (by kernel_rfl)
          have f25 : a.tmps.getD 25 undef = .int .i64 nz := e25
          have g25 : a.tmps[25]?.getD undef = .int .i64 nz := by rw [← Array.getD_eq_getD_getElem?]; exact e25
          refine op_call (f := 28) (args := #[.string pth, .agg #[.int .i64 0, .string pth, .string lk, .int .i64 nm, .int .i64 nu, .int .i64 ng, .int .i64 nt, .string us, .string gr, .string ⟨#[]⟩], .string fl, .int .i64 nz]) (R := fun v y => v = .string hd ∧ Below w2.heap.size w2 y) ?_ ((HPH.out w2).mono ?_) ?_
          · (clear hV hI hC; go_simp <;> (first | rfl | simp))
          · rintro e y ⟨rfl, hb⟩; exact ⟨_, rfl, rfl, hb⟩
          · rintro v y ⟨rfl, hb⟩; exact ⟨hC.trans (hb.mono hC.size), hb, by intro d hd; cases hd; rfl⟩
        case o27 =>
          intro Q a w2 hC hV hI
          have e0 : a.eval (.tmp 0) = .string s := (hI 0 (by simp [Op.operands]) (by kernel_rfl)).trans rfl
          have f0 : a.tmps.getD 0 undef = .string s := e0
          have g0 : a.tmps[0]?.getD undef = .string s := by rw [← Array.getD_eq_getD_getElem?]; exact e0
          refine op_val (.string s) ?_ hC (Below.refl _ _) (by intro d hd; cases hd; rfl)
          (clear hV hI hC; go_simp <;> (first | rfl | simp))
        case o28 =>
          intro Q a w2 hC hV hI
          have e27 : a.eval (.tmp 27) = .string s := hV 27 (by simp [Op.operands]) (by kernel_rfl)
          have f27 : a.tmps.getD 27 undef = .string s := e27
          have g27 : a.tmps[27]?.getD undef = .string s := by rw [← Array.getD_eq_getD_getElem?]; exact e27
          refine op_val (.string (s.extract 0 512)) ?_ hC (Below.refl _ _) (by intro d hd; cases hd; rfl)
          (clear hV hI hC; go_simp <;> (first | rfl | simp))
        case o29 =>
          intro Q a w2 hC hV hI
          have e26 : a.eval (.tmp 26) = .string hd := hV 26 (by simp [Op.operands]) (by kernel_rfl)
          have f26 : a.tmps.getD 26 undef = .string hd := e26
          have g26 : a.tmps[26]?.getD undef = .string hd := by rw [← Array.getD_eq_getD_getElem?]; exact e26
          have e28 : a.eval (.tmp 28) = .string (s.extract 0 512) := hV 28 (by simp [Op.operands]) (by kernel_rfl)
          have f28 : a.tmps.getD 28 undef = .string (s.extract 0 512) := e28
          have g28 : a.tmps[28]?.getD undef = .string (s.extract 0 512) := by rw [← Array.getD_eq_getD_getElem?]; exact e28
          refine op_val (.bool true) ?_ hC (Below.refl _ _) (by intro d hd; cases hd; rfl)
          (clear hV hI hC; go_simp <;> (first | rfl | simp))
      case hend =>
        intro f w9 hC hall
        simp only [List.forall_mem_cons] at hall
        obtain ⟨h21, h22, h23, h24, h25, h26, h27, h28, h29, _⟩ := hall
        replace h21 : f 21 = .pointer (some ⟨w1.heap.size, 1, none⟩) := h21 21 rfl
        replace h22 : f 22 = .string pth := h22 22 rfl
        replace h23 : f 23 = .agg #[.int .i64 0, .string pth, .string lk, .int .i64 nm, .int .i64 nu, .int .i64 ng, .int .i64 nt, .string us, .string gr, .string ⟨#[]⟩] := h23 23 rfl
        replace h24 : f 24 = .string fl := h24 24 rfl
        replace h25 : f 25 = .int .i64 nz := h25 25 rfl
        replace h26 : f 26 = .string hd := h26 26 rfl
        replace h27 : f 27 = .string s := h27 27 rfl
        replace h28 : f 28 = .string (s.extract 0 512) := h28 28 rfl
        replace h29 : f 29 = .bool true := h29 29 rfl
        simp only [putAll, Act.put, List.setIfInBounds_toArray, List.set_cons_succ, List.set_cons_zero, h21, h22, h23, h24, h25, h26, h27, h28, h29]
        clear h21 h22 h23 h24 h25 h26 h27 h28 h29
        have RO9 := Lib.hid ((hC.block _ zR4).trans RO4.out)
        have B9 := Lib.hid (B4.out.trans (hC.mono B4.out.size))
        have HSt := Lib.hid (run_storeVar_row (P := Tryz.prog) _ w.heap.size 23 23 zEnt zEnt RO9.out (by rw [Tryz.sizeEnt]; rfl) rfl (by simp [zEnt, Value.oneCell']))
        clear hC
        go_wp2_with ((with_reducible refine wpList_store_eq rfl 23 _ _ rfl ⟨w.heap.size, 0, none⟩ ?_ ?_ HSt.out ?_); rfl; rfl)
        refine bodyPost_ret (results_cell4 rfl _ _ w.heap.size _ zEnt (0, 0) _ rfl (setRow_heap _ _ _ _ _ _ RO9.out) Tryz.underlying23 rfl (by rw [Tryz.sizeEnt]; rfl)) rfl ?_
        rw [HE2.out]
        exact ⟨rfl, B9.out.trans (below_set (Nat.le_refl _) _)⟩
  · have HE : Hid (getLV s = .tuple #[.agg zEnt, .string ⟨#[]⟩, .int .i64 0, .int .i64 (rdL s)]) := Lib.hid (getLV_bad h0)
    rw [readLS_bad rfl h0] at H1
    generalize rdL s = cd at *
    go_enter Tryz.func11, Tryz.ntmps11
    go_wp2_with fail
    refine (H1.out _).mono ?_
    rintro e w1 ⟨rfl, hb⟩
    have R1 := (hb.block _ (obj_lt R0.out)).trans R0.out
    have B1 := B0.out.trans (hb.mono B0.out.size)
    have HSn := Lib.hid (run_storeVar_new (P := Tryz.prog) w1 23 zEnt zEnt (by rw [Tryz.sizeEnt]; rfl) rfl (by simp [zEnt, Value.oneCell']))
    have BX := (Below.refl w1.heap.size w1).alloc (Nat.le_refl _) (.cells zEnt 23)
    have RO7 := Lib.hid ((BX.block _ (obj_lt R1)).trans R1)
    have B7 := Lib.hid (B1.trans (BX.mono B1.size))
    have HSt := Lib.hid (run_storeVar_row (P := Tryz.prog) _ w.heap.size 23 23 zEnt zEnt RO7.out (by rw [Tryz.sizeEnt]; rfl) rfl (by simp [zEnt, Value.oneCell']))
    clear hb R0 B0 H1 BX R1 B1
    go_wp2_with (first | ((with_reducible refine wpList_store_eq rfl 23 _ _ rfl ⟨w1.heap.size, 0, none⟩ ?_ ?_ HSn.out ?_); rfl; rfl) | ((with_reducible refine wpList_store_eq rfl 23 _ _ rfl ⟨w.heap.size, 0, none⟩ ?_ ?_ HSt.out ?_); rfl; rfl))
    refine bodyPost_ret (results_cell4 rfl _ _ w.heap.size _ zEnt (0, 0) _ rfl (setRow_heap _ _ _ _ _ _ RO7.out) Tryz.underlying23 rfl (by rw [Tryz.sizeEnt]; rfl)) rfl ?_
    rw [HE.out]
    exact ⟨rfl, B7.out.trans (below_set (Nat.le_refl _) _)⟩
end Go.Proofs.YtgpgkgahbkmdiabGreatDoor

/- Contracts of laws.eqEntry and laws.eqEntryS where both are the same. -/
namespace Go.Proofs.YtgpgkgahbkmdiabGreatDoor
open Go.ChangeShapes Go.WideShapes Go.ChangeAt Go.RowKit Go.Deep

theorem eqEntry_self (k : Int) (p l : ByteArray) (m u g t : Int) (us gr b : ByteArray) (w : World) :
    Calls Tryz.prog 10 #[.agg #[.int .i64 k, .string p, .string l, .int .i64 m, .int .i64 u, .int .i64 g, .int .i64 t, .string us, .string gr, .string b], .agg #[.int .i64 k, .string p, .string l, .int .i64 m, .int .i64 u, .int .i64 g, .int .i64 t, .string us, .string gr, .string b]] w fun e w' => e = .returned (.bool true) ∧ Below w.heap.size w w' := by
  have q1 : (p.toList == p.toList) = true := by simp
  have q2 : (l.toList == l.toList) = true := by simp
  have q3 : (us.toList == us.toList) = true := by simp
  have q4 : (gr.toList == gr.toList) = true := by simp
  have q5 : (b.toList == b.toList) = true := by simp
  go_enter Tryz.func10, Tryz.ntmps10
  go_wp2_with fail
  go_ret
  exact ⟨rfl, ((Below.refl _ w).alloc (Nat.le_refl _) _).alloc (by simp) _⟩
theorem bl_ch {w x w1 : World} (h1 : Below x.heap.size x w1) (os : x.os = w.os) (tape : x.tape = w.tape) (out : x.output = w.output) (hs : w.heap.size ≤ x.heap.size) (B : Nat) (hB : B ≤ x.heap.size) (hb : ∀ k, k < B → x.heap[k]? = w.heap[k]?) : Below B w w1 :=
  ⟨h1.os.trans os, h1.tape.trans tape, h1.output.trans out, Nat.le_trans hs h1.size, fun k hk => (h1.block k (Nat.lt_of_lt_of_le hk hB)).trans (hb k hk)⟩
theorem getE {L : List Ent} {i : Nat} (h : i < L.length) : ∃ e, L[i]? = some e := ⟨L[i], List.getElem?_eq_getElem h⟩
set_option maxHeartbeats 1600000 in
theorem eqEntryS_any (L : List Ent) (n g g2 ca cb : Nat) (w : World) (hn : n = L.length) (hm : n ≤ 4194304) (hg : g < w.heap.size) (hg2 : g2 < w.heap.size) (h1 : RowE w g L) (h2 : RowE w g2 L) :
    Calls Tryz.prog 15 #[.slice (some ⟨g, 0, none⟩) n ca, .slice (some ⟨g2, 0, none⟩) n cb] w fun e w' => e = .returned (.bool true) ∧ Below w.heap.size w w' := by
  have H1 := Lib.hid h1
  have H2 := Lib.hid h2
  have HG : Hid (∀ i, i < n → ∃ e, L[i]? = some e) := Lib.hid (fun i hi => getE (by omega))
  clear h1 h2 hn
  go_enter Tryz.func15, Tryz.ntmps15
  go_wp2_with fail
  go_loopw [5] (fun u wr => ∃ i : Nat, u = .int .i64 i ∧ i ≤ n ∧ Below w.heap.size w wr) (fun u _ => n - (intOf u).toNat)
  case atStart => exact ⟨0, rfl, Nat.zero_le _, Below.refl _ _⟩
  case round =>
    obtain ⟨i, rfl, hi, hb⟩ := hrel
    have B := Lib.hid hb
    clear hb
    by_cases hlt : i < n
    · have hlt2 : (i : Int) < (n : Int) := by omega
      obtain ⟨e, he⟩ := HG.out i hlt
      have R1 := Lib.hid (H1.out.below B.out hg)
      have R2 := Lib.hid (H2.out.below B.out hg2)
      obtain ⟨c0, c1, c2, c3, c4, c5, c6, c7, c8, c9⟩ := R1.out.ten he
      obtain ⟨d0, d1, d2, d3, d4, d5, d6, d7, d8, d9⟩ := R2.out.ten he
      clear he R1 R2
      obtain ⟨k, p, l, m, u, g0, t, us, gr, b⟩ := e
      have HQ := Lib.hid (fun w => eqEntry_self k p l m u g0 t us gr b w)
      go_wp2_with fail
      have hsz := B.out.size
      go_region_with (go_at_call 10; refine (HQ.out _).mono ?_; rintro e w1 ⟨rfl, hb1⟩; have B1 := Lib.hid (bl_ch hb1 B.out.os B.out.tape B.out.output hsz w.heap.size hsz B.out.block); clear hb1)
      all_goals
        go_wp2_with fail
        go_roundw
        case rel => exact ⟨i + 1, by go_num, by omega, B1.out.os, B1.out.tape, B1.out.output, B1.out.size, B1.out.block⟩
        case measure => simp [intOf]; omega
    · have hlt2 : ¬ (i : Int) < (n : Int) := by omega
      go_wp2_with fail
      go_ret
      exact ⟨rfl, B.out⟩
end Go.Proofs.YtgpgkgahbkmdiabGreatDoor

/- The law laws.FnExactGetLong returns true. -/
namespace Go.Proofs.YtgpgkgahbkmdiabGreatDoor
open Go.ChangeShapes Go.WideShapes Go.ChangeAt Go.RowKit

theorem getV_form (s : ByteArray) : ∃ (k : Int) (p l : ByteArray) (m u g t : Int) (us gr b fl : ByteArray) (z c : Int), getLV s = .tuple #[.agg #[.int .i64 k, .string p, .string l, .int .i64 m, .int .i64 u, .int .i64 g, .int .i64 t, .string us, .string gr, .string b], .string fl, .int .i64 z, .int .i64 c] := by
  unfold getLV
  split
  · exact ⟨_, _, _, _, _, _, _, _, _, _, _, _, _, rfl⟩
  · exact ⟨_, _, _, _, _, _, _, _, _, _, _, _, _, rfl⟩
set_option maxHeartbeats 1600000 in
set_option maxRecDepth 8000 in
theorem getLong_law (s : ByteArray) (w : World) (hT : Tabs w) (hF : FW w) (hH : Handle w) :
    Calls Tryz.prog 4 #[.string s] w fun e w' => e = .returned (.bool true) ∧ Below w.heap.size w w' := by
  by_cases hs : (s.size : Int) ≤ 1048576
  · have S1 := Lib.hid (fun w => getLong_spec s w (by omega))
    have S2 := Lib.hid (fun w hT hF hH => getLong_impl s w (by omega) hT hF hH)
    obtain ⟨k, p, l, m, u, g, t, us, gr, b, fl, z, c, hg⟩ := getV_form s
    rw [hg] at S1 S2
    have HQ := Lib.hid (fun w => eqEntry_self k p l m u g t us gr b w)
    have q : (fl.toList == fl.toList) = true := by simp
    have HT := Lib.hid hT
    have HF := Lib.hid hF
    have HH := Lib.hid hH
    clear hT hF hH hg
    go_enter Tryz.func4, Tryz.ntmps4
    go_wp2_with fail
    refine (S1.out _).mono ?_
    rintro e w1 ⟨rfl, hb⟩
    have B1 := Lib.hid hb
    have HS1 := Lib.hid (run_storeVar_new (P := Tryz.prog) w1 23 zEnt #[.int .i64 k, .string p, .string l, .int .i64 m, .int .i64 u, .int .i64 g, .int .i64 t, .string us, .string gr, .string b] (by rw [Tryz.sizeEnt]; rfl) rfl (by simp [Value.oneCell']))
    have O2 := heap_alloc_last w1 (.cells #[.int .i64 k, .string p, .string l, .int .i64 m, .int .i64 u, .int .i64 g, .int .i64 t, .string us, .string gr, .string b] 23)
    have B2 := Lib.hid (B1.out.alloc B1.out.size (.cells #[.int .i64 k, .string p, .string l, .int .i64 m, .int .i64 u, .int .i64 g, .int .i64 t, .string us, .string gr, .string b] 23))
    clear hb S1
    go_wp2_with ((with_reducible refine wpList_store_eq rfl 23 _ _ rfl ⟨w1.heap.size, 0, none⟩ ?_ ?_ HS1.out ?_); rfl; rfl)
    clear HS1
    generalize w1.alloc (.cells #[.int .i64 k, .string p, .string l, .int .i64 m, .int .i64 u, .int .i64 g, .int .i64 t, .string us, .string gr, .string b] 23) = w2 at *
    refine (S2.out _ (HT.out.below B2.out) (HF.out.below B2.out) (HH.out.below B2.out)).mono ?_
    rintro e w3 ⟨rfl, hb⟩
    have O3 := (hb.block _ (obj_lt O2)).trans O2
    have B3 := Lib.hid (B2.out.trans (hb.mono B2.out.size))
    have HS2 := Lib.hid (run_storeVar_new (P := Tryz.prog) w3 23 zEnt #[.int .i64 k, .string p, .string l, .int .i64 m, .int .i64 u, .int .i64 g, .int .i64 t, .string us, .string gr, .string b] (by rw [Tryz.sizeEnt]; rfl) rfl (by simp [Value.oneCell']))
    have O4 := heap_alloc_last w3 (.cells #[.int .i64 k, .string p, .string l, .int .i64 m, .int .i64 u, .int .i64 g, .int .i64 t, .string us, .string gr, .string b] 23)
    have B4 := Lib.hid (B3.out.alloc B3.out.size (.cells #[.int .i64 k, .string p, .string l, .int .i64 m, .int .i64 u, .int .i64 g, .int .i64 t, .string us, .string gr, .string b] 23))
    have O5 := (((Below.refl w3.heap.size w3).alloc (Nat.le_refl _) (.cells #[.int .i64 k, .string p, .string l, .int .i64 m, .int .i64 u, .int .i64 g, .int .i64 t, .string us, .string gr, .string b] 23)).block _ (obj_lt O3)).trans O3
    have HL1 := Lib.hid (run_loadVar_row (P := Tryz.prog) _ _ 23 23 _ (0, 0) _ O4 Tryz.underlying23 rfl (by rw [Tryz.sizeEnt]; rfl))
    have HL2 := Lib.hid (run_loadVar_row (P := Tryz.prog) _ _ 23 23 _ (0, 0) _ O5 Tryz.underlying23 rfl (by rw [Tryz.sizeEnt]; rfl))
    clear hb S2 HT HF HH O2 O3 O4 O5 B1 B2 B3
    go_wp2_with (first | ((with_reducible refine wpList_store_eq rfl 23 _ _ rfl ⟨w3.heap.size, 0, none⟩ ?_ ?_ HS2.out ?_); rfl; rfl) | ((with_reducible refine wpList_load_eq rfl 23 _ rfl ⟨w3.heap.size, 0, none⟩ ?_ HL1.out ?_); rfl) | ((with_reducible refine wpList_load_eq rfl 23 _ rfl ⟨w1.heap.size, 0, none⟩ ?_ HL2.out ?_); rfl))
    refine (HQ.out _).mono ?_
    rintro e w5 ⟨rfl, hb⟩
    have B5 := Lib.hid (B4.out.trans (hb.mono B4.out.size))
    clear hb
    go_wp2_with fail
    go_ret
    exact ⟨rfl, B5.out⟩
  · go_enter Tryz.func4, Tryz.ntmps4
    go_wp2_with fail
    go_ret
    exact ⟨rfl, Below.refl _ _⟩
end Go.Proofs.YtgpgkgahbkmdiabGreatDoor
