/- The law laws.FnReads: for every slice of bytes it returns true. -/
import Derived.Test.YtndgppabfdeecaaDoorDrawGet
namespace Go.Proofs.YtndgppabfdeecaaDoor
open Go.ChangeShapes Go.WideShapes Go.ChangeAt Go.RowKit

/-- What is written again for what was read: of what was refused nothing is said. -/
def Again (f : Bool) (r o : ByteArray) : Prop := f = false ∨ (f = true ∧ r = o)

set_option maxRecDepth 100000 in
set_option maxHeartbeats 4000000 in
theorem reads_law (a : Option Addr) (len cap : Nat) (w : World) (ht : Tabs w) (hC : len ≤ 1048576 → CodeIn w a len) :
    Calls Tryd.prog 10 #[.slice a len cap] w fun e w' => e = .returned (.bool true) ∧ Below w.heap.size w w' := by
  have HT := Lib.hid ht
  clear ht
  by_cases hb : 1048576 < (len : Int)
  · have hd : decide (1048576 < (len : Int)) = true := by simpa using hb
    clear hC
    go_enter Tryd.func10, Tryd.ntmps10
    go_wp2_with fail
    refine (big_any _ _ _ _).mono ?_
    rintro e w1 ⟨rfl, rfl⟩
    go_wp2_with fail
    go_ret
    exact ⟨rfl, Below.refl _ _⟩
  · have hd : decide (1048576 < (len : Int)) = false := by simpa using hb
    have HC := Lib.hid (hC (by omega))
    clear hC
    go_enter Tryd.func10, Tryd.ntmps10
    go_wp2_with fail
    refine (big_any _ _ _ _).mono ?_
    rintro e w0 ⟨rfl, rfl⟩
    have B0 := Lib.hid (Below.refl w.heap.size w)
    go_wp2_with fail
    refine (drawGetOct _ _ _ _ (HC.out.below B0.out)).mono ?_
    rintro e w11 ⟨o1, z1, rfl, b⟩
    have D1 := Lib.hid (btrans B0.out b)
    clear b
    have I1 := Lib.hid (fun w => getOct_impl o1 w (by omega))
    have S1 := Lib.hid (fun w => getOct_spec o1 w (by omega))
    have R1 := Lib.hid (show ∀ n, getOctv o1.data.toList = (n, true) → putOctv n o1.size = (o1, true) from fun n h => oct_read o1 n h)
    generalize getOctv o1.data.toList = q1 at I1 S1 R1
    obtain ⟨n1, f1⟩ := q1
    simp only at I1 S1 R1
    go_wp2_with fail
    refine (I1.out _).mono ?_
    rintro e w12 ⟨rfl, rfl⟩
    have E1 := Lib.hid D1.out
    go_wp2_with fail
    refine (S1.out _).mono ?_
    rintro e w13 ⟨rfl, rfl⟩
    clear I1 S1
    go_wp2_with fail
    refine (drawGetHex _ _ _ _ (HC.out.below E1.out)).mono ?_
    rintro e w21 ⟨o2, z2, rfl, b⟩
    have D2 := Lib.hid (btrans E1.out b)
    clear b
    have I2 := Lib.hid (fun w => getHex_impl o2 w (by omega))
    have S2 := Lib.hid (fun w => getHex_spec o2 w (by omega))
    have R2 := Lib.hid (show ∀ n, getHexv o2.data.toList = (n, true) → putHexv n = (o2, true) from fun n h => hex_read o2 n h)
    generalize getHexv o2.data.toList = q2 at I2 S2 R2
    obtain ⟨n2, f2⟩ := q2
    simp only at I2 S2 R2
    go_wp2_with fail
    refine (I2.out _).mono ?_
    rintro e w22 ⟨rfl, rfl⟩
    have E2 := Lib.hid D2.out
    go_wp2_with fail
    refine (S2.out _).mono ?_
    rintro e w23 ⟨rfl, rfl⟩
    clear I2 S2
    go_wp2_with fail
    refine (drawGetDec _ _ _ _ (HC.out.below E2.out)).mono ?_
    rintro e w31 ⟨o3, z3, rfl, b⟩
    have D3 := Lib.hid (btrans E2.out b)
    clear b
    have I3 := Lib.hid (fun w h => getDec_impl o3 w (by omega) h)
    have S3 := Lib.hid (fun w => getDec_spec o3 w (by omega))
    have R3 := Lib.hid (show ∀ n, getDecv o3 = (n, true) → putDecv n o3.size = (o3, true) from fun n h => dec_read o3 n h)
    generalize getDecv o3 = q3 at I3 S3 R3
    obtain ⟨n3, f3⟩ := q3
    simp only at I3 S3 R3
    go_wp2_with fail
    refine (I3.out _ (HT.out.below D3.out)).mono ?_
    rintro e w32 ⟨rfl, b⟩
    have E3 := Lib.hid (btrans D3.out b)
    clear b
    go_wp2_with fail
    refine (S3.out _).mono ?_
    rintro e w33 ⟨rfl, rfl⟩
    clear I3 S3
    go_wp2_with fail
    refine (drawGetBig _ _ _ _ (HC.out.below E3.out)).mono ?_
    rintro e w41 ⟨o4, z4, rfl, b⟩
    have D4 := Lib.hid (btrans E3.out b)
    clear b
    have I4 := Lib.hid (fun w => getBig_impl o4 w (by omega))
    have S4 := Lib.hid (fun w => getBig_spec o4 w (by omega))
    have R4 := Lib.hid (show ∀ n, bigv o4 = (n, true) → putBigv n o4.size = (o4, true) from fun n h => big_read o4 n h)
    generalize bigv o4 = q4 at I4 S4 R4
    obtain ⟨n4, f4⟩ := q4
    simp only at I4 S4 R4
    go_wp2_with fail
    refine (I4.out _).mono ?_
    rintro e w42 ⟨rfl, rfl⟩
    have E4 := Lib.hid D4.out
    go_wp2_with fail
    refine (S4.out _).mono ?_
    rintro e w43 ⟨rfl, rfl⟩
    clear I4 S4
    have x1 : (n1 != n1) = false := by simp
    have x2 : (n2 != n2) = false := by simp
    have x3 : (n3 != n3) = false := by simp
    have x4 : (n4 != n4) = false := by simp
    have y1 : (f1 != f1) = false := by simp
    have y2 : (f2 != f2) = false := by simp
    have y3 : (f3 != f3) = false := by simp
    have y4 : (f4 != f4) = false := by simp
    go_wp2_with fail
    clear x1 x2 x3 x4 y1 y2 y3 y4 B0 D1 D2 D3 D4 E1 E2 E3 HC
    have P1 := Lib.hid (fun w h => putOct_impl n1 o1.size w h)
    have P2 := Lib.hid (fun w h => putHex_impl n2 w h)
    have P3 := Lib.hid (fun w h => putDec_impl n3 o3.size w h)
    have P4 := Lib.hid (fun w => putBig_impl n4 o4.size w)
    have A1 := Lib.hid (show Again f1 (putOctv n1 o1.size).1 o1 by
      cases f1
      · exact .inl rfl
      · exact .inr ⟨rfl, by rw [R1.out n1 rfl]⟩)
    have A2 := Lib.hid (show Again f2 (putHexv n2).1 o2 by
      cases f2
      · exact .inl rfl
      · exact .inr ⟨rfl, by rw [R2.out n2 rfl]⟩)
    have A3 := Lib.hid (show Again f3 (putDecv n3 o3.size).1 o3 by
      cases f3
      · exact .inl rfl
      · exact .inr ⟨rfl, by rw [R3.out n3 rfl]⟩)
    have A4 := Lib.hid (show Again f4 (putBigv n4 o4.size).1 o4 by
      cases f4
      · exact .inl rfl
      · exact .inr ⟨rfl, by rw [R4.out n4 rfl]⟩)
    clear R1 R2 R3 R4
    generalize putOctv n1 o1.size = p1 at P1 A1
    obtain ⟨r1, g1⟩ := p1
    generalize putHexv n2 = p2 at P2 A2
    obtain ⟨r2, g2⟩ := p2
    generalize putDecv n3 o3.size = p3 at P3 A3
    obtain ⟨r3, g3⟩ := p3
    generalize putBigv n4 o4.size = p4 at P4 A4
    obtain ⟨r4, g4⟩ := p4
    simp only at P1 P2 P3 P4 A1 A2 A3 A4
    refine (P1.out _ (HT.out.below E4.out)).mono ?_
    rintro e v1 ⟨rfl, b⟩
    have F1 := Lib.hid (btrans E4.out b)
    clear b E4 P1
    rcases A1.out with rfl | ⟨rfl, h1⟩
    all_goals
      clear A1
      try (have k1 := ba_eq h1)
      try clear h1
      go_wp2_with fail
      refine (P2.out _ (HT.out.below F1.out)).mono ?_
      rintro e v2 ⟨rfl, b⟩
      have F2 := Lib.hid (btrans F1.out b)
      clear b F1 P2
      rcases A2.out with rfl | ⟨rfl, h2⟩
    all_goals
      clear A2
      try (have k2 := ba_eq h2)
      try clear h2
      go_wp2_with fail
      refine (P3.out _ (HT.out.below F2.out)).mono ?_
      rintro e v3 ⟨rfl, b⟩
      have F3 := Lib.hid (btrans F2.out b)
      clear b F2 P3
      rcases A3.out with rfl | ⟨rfl, h3⟩
    all_goals
      clear A3
      try (have k3 := ba_eq h3)
      try clear h3
      go_wp2_with fail
      refine (P4.out _).mono ?_
      rintro e v4 ⟨rfl, b⟩
      have F4 := Lib.hid (btrans F3.out b)
      clear b F3 P4
      rcases A4.out with rfl | ⟨rfl, h4⟩
    all_goals
      clear A4
      try (have k4 := ba_eq h4)
      try clear h4
      go_wp2_with fail
      go_ret
      exact ⟨rfl, F4.out⟩
end Go.Proofs.YtndgppabfdeecaaDoor
