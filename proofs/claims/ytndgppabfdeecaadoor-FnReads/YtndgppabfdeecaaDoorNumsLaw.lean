/- The law laws.FnNums: for every slice of bytes it returns true. -/
import Derived.Test.YtndgppabfdeecaaDoorDrawNum
namespace Go.Proofs.YtndgppabfdeecaaDoor
open Go.ChangeShapes Go.WideShapes Go.ChangeAt Go.RowKit

/-- What reading back gives: of what was refused nothing is said. -/
def Back (f : Bool) (r : ByteArray) (a width m : Int) (g : Bool) : Prop := f = false ∨ (f = true ∧ g = true ∧ m = a ∧ (r.size : Int) = width)
theorem putOctv_size (n width : Int) : (putOctv n width).1.size ≤ 40 := by
  by_cases h : (putOctv n width).2 = true
  · have := (oct_back n width h).2
    unfold putOctv at h
    split at h
    · rename_i hv; have := hv.1.2.2.2; omega
    · simp at h
  · unfold putOctv at h ⊢
    split
    · rename_i hv; rw [if_pos hv] at h; simp at h
    · simp [ByteArray.size]
theorem putHexv_size (n : Int) : (putHexv n).1.size ≤ 40 := by
  by_cases h : (putHexv n).2 = true
  · have := (hex_back n h).2; omega
  · unfold putHexv at h ⊢
    split
    · rename_i hv; rw [if_pos hv] at h; simp at h
    · simp [ByteArray.size]
theorem putDecv_size (n width : Int) : (putDecv n width).1.size ≤ 40 := by
  by_cases h : (putDecv n width).2 = true
  · have := dec_size n width h
    unfold putDecv at h
    split at h
    · rename_i hv; have := hv.1.2.2.2; omega
    · simp at h
  · unfold putDecv at h ⊢
    split
    · rename_i hv; rw [if_pos hv] at h; simp at h
    · simp [ByteArray.size]
theorem putBigv_size (n width : Int) : (putBigv n width).1.size ≤ 40 := by
  by_cases h : (putBigv n width).2 = true
  · have := (big_back n width h).2
    unfold putBigv at h
    split at h
    · rename_i hv; have := hv.2.2.2.1; omega
    · simp at h
  · unfold putBigv at h ⊢
    split
    · rename_i hv; rw [if_pos hv] at h; simp at h
    · simp [ByteArray.size]

set_option maxRecDepth 100000 in
set_option maxHeartbeats 4000000 in
theorem nums_law (a : Option Addr) (len cap : Nat) (w : World) (ht : Tabs w) (hC : len ≤ 1048576 → CodeIn w a len) :
    Calls Tryd.prog 9 #[.slice a len cap] w fun e w' => e = .returned (.bool true) ∧ Below w.heap.size w w' := by
  have HT := Lib.hid ht
  clear ht
  by_cases hb : 1048576 < (len : Int)
  · have hd : decide (1048576 < (len : Int)) = true := by simpa using hb
    clear hC
    go_enter Tryd.func9, Tryd.ntmps9
    go_wp2_with fail
    refine (big_any _ _ _ _).mono ?_
    rintro e w1 ⟨rfl, rfl⟩
    go_wp2_with fail
    go_ret
    exact ⟨rfl, Below.refl _ _⟩
  · have hd : decide (1048576 < (len : Int)) = false := by simpa using hb
    have HC := Lib.hid (hC (by omega))
    clear hC
    go_enter Tryd.func9, Tryd.ntmps9
    go_wp2_with fail
    refine (big_any _ _ _ _).mono ?_
    rintro e w0 ⟨rfl, rfl⟩
    have B0 := Lib.hid (Below.refl w.heap.size w)
    go_wp2_with fail
    refine (drawPutOct _ _ _ _ HC.out).mono ?_
    rintro e w1 ⟨aa, ww, hn, rfl, b1⟩
    have B1 := Lib.hid b1
    clear b1 hn
    have K1 := Lib.hid (fun w h => putOct_impl aa ww w h)
    have S1 := Lib.hid (fun w => putOct_spec aa ww w)
    have Q1 := Lib.hid (oct_back aa ww)
    have z1 := putOctv_size aa ww
    have G1 := Lib.hid (fun w => getOct_impl (putOctv aa ww).1 w (by omega))
    generalize putOctv aa ww = p1 at K1 S1 Q1 z1 G1
    obtain ⟨r1, f1⟩ := p1
    simp only at K1 S1 Q1 z1 G1
    go_wp2_with fail
    refine (K1.out _ (HT.out.below B1.out)).mono ?_
    rintro e w2 ⟨rfl, b2⟩
    have B2 := Lib.hid (btrans B1.out b2)
    clear b2
    go_wp2_with fail
    refine (S1.out _).mono ?_
    rintro e w2' ⟨rfl, rfl⟩
    go_wp2_with fail
    refine (drawPutHex _ _ _ _ (HC.out.below B2.out)).mono ?_
    rintro e w3 ⟨hx, hn, rfl, b3⟩
    have B3 := Lib.hid (btrans B2.out b3)
    clear b3 hn
    have K2 := Lib.hid (fun w h => putHex_impl hx w h)
    have S2 := Lib.hid (fun w => putHex_spec hx w)
    have Q2 := Lib.hid (hex_back hx)
    have z2 := putHexv_size hx
    have G2 := Lib.hid (fun w => getHex_impl (putHexv hx).1 w (by omega))
    generalize putHexv hx = p2 at K2 S2 Q2 z2 G2
    obtain ⟨r2, f2⟩ := p2
    simp only at K2 S2 Q2 z2 G2
    go_wp2_with fail
    refine (K2.out _ (HT.out.below B3.out)).mono ?_
    rintro e w4 ⟨rfl, b4⟩
    have B4 := Lib.hid (btrans B3.out b4)
    clear b4
    go_wp2_with fail
    refine (S2.out _).mono ?_
    rintro e w4' ⟨rfl, rfl⟩
    go_wp2_with fail
    refine (drawPutDec _ _ _ _ (HC.out.below B4.out)).mono ?_
    rintro e w5 ⟨dd, ee, hn, rfl, b5⟩
    have B5 := Lib.hid (btrans B4.out b5)
    clear b5 hn
    have K3 := Lib.hid (fun w h => putDec_impl dd ee w h)
    have S3 := Lib.hid (fun w => putDec_spec dd ee w)
    have Q3 := Lib.hid (dec_back dd ee)
    have z3 := putDecv_size dd ee
    have G3 := Lib.hid (fun w h => getDec_impl (putDecv dd ee).1 w (by omega) h)
    generalize putDecv dd ee = p3 at K3 S3 Q3 z3 G3
    obtain ⟨r3, f3⟩ := p3
    simp only at K3 S3 Q3 z3 G3
    go_wp2_with fail
    refine (K3.out _ (HT.out.below B5.out)).mono ?_
    rintro e w6 ⟨rfl, b6⟩
    have B6 := Lib.hid (btrans B5.out b6)
    clear b6
    go_wp2_with fail
    refine (S3.out _).mono ?_
    rintro e w6' ⟨rfl, rfl⟩
    go_wp2_with fail
    refine (drawPutBig _ _ _ _ (HC.out.below B6.out)).mono ?_
    rintro e w7 ⟨gg, kk, hn, rfl, b7⟩
    have B7 := Lib.hid (btrans B6.out b7)
    clear b7 hn
    have K4 := Lib.hid (fun w => putBig_impl gg kk w)
    have S4 := Lib.hid (fun w => putBig_spec gg kk w)
    have Q4 := Lib.hid (big_back gg kk)
    have z4 := putBigv_size gg kk
    have G4 := Lib.hid (fun w => getBig_impl (putBigv gg kk).1 w (by omega))
    generalize putBigv gg kk = p4 at K4 S4 Q4 z4 G4
    obtain ⟨r4, f4⟩ := p4
    simp only at K4 S4 Q4 z4 G4
    go_wp2_with fail
    refine (K4.out _).mono ?_
    rintro e w8 ⟨rfl, b8⟩
    have B8 := Lib.hid (btrans B7.out b8)
    clear b8
    go_wp2_with fail
    refine (S4.out _).mono ?_
    rintro e w9 ⟨rfl, b9⟩
    have B9 := Lib.hid (btrans B8.out b9)
    clear b9 K1 K2 K3 K4 S1 S2 S3 S4
    have y1 : (f1 != f1) = false := by simp
    have y2 : (f2 != f2) = false := by simp
    have y3 : (f3 != f3) = false := by simp
    have y4 : (f4 != f4) = false := by simp
    go_wp2_with fail
    clear y1 y2 y3 y4
    have HG1 := Lib.hid (show Back f1 r1 aa ww (getOctv r1.data.toList).1 (getOctv r1.data.toList).2 by
      cases f1
      · exact .inl rfl
      · obtain ⟨q1, q2⟩ := Q1.out rfl
        rw [q1]; exact .inr ⟨rfl, rfl, rfl, q2⟩)
    generalize getOctv r1.data.toList = o1 at HG1 G1
    obtain ⟨m1, g1⟩ := o1
    refine (G1.out _).mono ?_
    rintro e w10 ⟨rfl, rfl⟩
    have HG2 := Lib.hid (show Back f2 r2 hx 8 (getHexv r2.data.toList).1 (getHexv r2.data.toList).2 by
      cases f2
      · exact .inl rfl
      · obtain ⟨q1, q2⟩ := Q2.out rfl
        rw [q1]; exact .inr ⟨rfl, rfl, rfl, by omega⟩)
    have HG3 := Lib.hid (show Back f3 r3 dd ee (getDecv r3).1 (getDecv r3).2 by
      cases f3
      · exact .inl rfl
      · obtain ⟨q1, q2⟩ := Q3.out rfl
        rw [q1]; exact .inr ⟨rfl, rfl, rfl, q2⟩)
    have HG4 := Lib.hid (show Back f4 r4 gg kk (bigv r4).1 (bigv r4).2 by
      cases f4
      · exact .inl rfl
      · obtain ⟨q1, q2⟩ := Q4.out rfl
        rw [q1]; exact .inr ⟨rfl, rfl, rfl, q2⟩)
    generalize getHexv r2.data.toList = o2 at HG2 G2
    obtain ⟨m2, g2⟩ := o2
    generalize getDecv r3 = o3 at HG3 G3
    obtain ⟨m3, g3⟩ := o3
    generalize bigv r4 = o4 at HG4 G4
    obtain ⟨m4, g4⟩ := o4
    clear Q1 Q2 Q3 Q4 G1
    have HT9 := Lib.hid (HT.out.below B9.out)
    clear B0 B1 B2 B3 B4 B5 B6 B7 B8 HC HT
    rcases HG1.out with rfl | ⟨rfl, rfl, rfl, hs1⟩
    all_goals
      clear HG1
      try (have hq1 : ((r1.size : Int) != ww) = false := by simp [hs1])
      try clear hs1
      go_wp2_with fail
      refine (G2.out _).mono ?_
      rintro e w11 ⟨rfl, rfl⟩
      rcases HG2.out with rfl | ⟨rfl, rfl, rfl, hs2⟩
    all_goals
      clear HG2 G2
      try (have hq2 : ((r2.size : Int) != 8) = false := by simp [hs2])
      try clear hs2
      go_wp2_with fail
      refine (G3.out _ HT9.out).mono ?_
      rintro e w12 ⟨rfl, b12⟩
      have B12 := Lib.hid (btrans B9.out b12)
      clear b12 B9
      rcases HG3.out with rfl | ⟨rfl, rfl, rfl, hs3⟩
    all_goals
      clear HG3 G3
      try (have hq3 : ((r3.size : Int) != ee) = false := by simp [hs3])
      try clear hs3
      go_wp2_with fail
      refine (G4.out _).mono ?_
      rintro e w13 ⟨rfl, rfl⟩
      rcases HG4.out with rfl | ⟨rfl, rfl, rfl, hs4⟩
    all_goals
      clear HG4 G4
      try (have hq4 : ((r4.size : Int) == kk) = true := by simp [hs4])
      try clear hs4
      go_wp2_with fail
      go_ret
      exact ⟨rfl, B12.out⟩
end Go.Proofs.YtndgppabfdeecaaDoor
