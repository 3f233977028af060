/- Plain mathematics: what PutOct, PutHex, PutDec and PutBig write is read as the number, and what is read is what is written for it. -/
import Derived.Test.YtndgppabfdeecaaDoorGetDec
import Derived.Test.YtndgppabfdeecaaDoorGetOH
import Derived.Test.YtndgppabfdeecaaDoorGetBig
import Derived.Test.YtndgppabfdeecaaDoorPutBig
namespace Go.Proofs.YtndgppabfdeecaaDoor

theorem ahead_lead (b : Nat) (hb : 2 ≤ b) (hb16 : b ≤ 16) (u : Nat) (hM : (u : Int) ≤ 9007199254740991) (width : Int) : lead b 0 (ahead (numeral b u) width) = ((u : Int), (ahead (numeral b u) width).length) := by
  unfold ahead
  rw [zeros_lead b hb, lead_numeral b hb hb16 u hM]
  simp; omega
theorem ahead_vals (b : Nat) (hb : 2 ≤ b) (hb16 : b ≤ 16) (u : Nat) (hM : (u : Int) ≤ 9007199254740991) (width : Int) : vals b 0 (ahead (numeral b u) width) = u := by
  rw [vals_lead b (by omega) 0 _ (by omega), ahead_lead b hb hb16 u hM]
  simp
theorem oct_back (n width : Int) (h : (putOctv n width).2 = true) : getOctv (putOctv n width).1.data.toList = (n, true) ∧ ((putOctv n width).1.size : Int) = width := by
  unfold putOctv at h ⊢
  split at h
  · rename_i hv
    rw [if_pos hv]
    obtain ⟨⟨h0, h1, h2, h3⟩, h4⟩ := hv
    obtain ⟨u, rfl⟩ := Int.eq_ofNat_of_zero_le h0
    have hv : vals (8 : Int) 0 (ahead (numeral 8 u) width) = u := ahead_vals 8 (by omega) (by omega) u h1 width
    have hl := ahead_len (numeral 8 u) width
    simp only [Int.toNat_natCast] at h4 ⊢
    have hlw : (ahead (numeral 8 u) width).length = width.toNat := by rw [hl]; omega
    refine ⟨?_, ?_⟩
    · show getOctv (ahead (numeral 8 u) width) = _
      rw [getOctv, hv, if_pos ⟨by omega, by omega, by omega⟩]
    · rw [ba_size, hlw]; omega
  · simp at h
theorem hex_back (n : Int) (h : (putHexv n).2 = true) : getHexv (putHexv n).1.data.toList = (n, true) ∧ (putHexv n).1.size = 8 := by
  unfold putHexv at h ⊢
  split at h
  · rename_i hv
    rw [if_pos hv]
    obtain ⟨h0, h1⟩ := hv
    obtain ⟨u, rfl⟩ := Int.eq_ofNat_of_zero_le h0
    have hv : vals (16 : Int) 0 (ahead (numeral 16 u) 8) = u := ahead_vals 16 (by omega) (by omega) u (by omega) 8
    have hl := ahead_len (numeral 16 u) 8
    have hn := numeral_len (b := 16) (u := u) (k := 8) (by omega) (by omega) (by omega)
    simp only [Int.toNat_natCast]
    have hlw : (ahead (numeral 16 u) 8).length = 8 := by rw [hl]; omega
    refine ⟨?_, ?_⟩
    · show getHexv (ahead (numeral 16 u) 8) = _
      rw [getHexv, hv, if_pos ⟨hlw, by omega⟩]
    · rw [ba_size, hlw]
  · simp at h
theorem dec_size (n width : Int) (h : (putDecv n width).2 = true) : ((putDecv n width).1.size : Int) = width := by
  unfold putDecv at h ⊢
  split at h
  · rename_i hv
    rw [if_pos hv]
    obtain ⟨⟨h0, h1, h2, h3⟩, h4⟩ := hv
    show ((⟨(decl n width).toArray⟩ : ByteArray).size : Int) = width
    rw [ba_size, decl]
    simp; omega
  · simp at h
theorem dec_back (n width : Int) (h : (putDecv n width).2 = true) : getDecv (putDecv n width).1 = (n, true) ∧ ((putDecv n width).1.size : Int) = width := by
  have hs := dec_size n width h
  refine ⟨?_, hs⟩
  have hp : putDecv n (putDecv n width).1.size = ((putDecv n width).1, true) := by
    rw [hs, ← h]
  have hc := (cand_eq hp).2
  rw [getDecv, hc, if_pos hp]
theorem bigs_st (n : Int) (h0 : 0 ≤ n) (h1 : n ≤ 9007199254740991) : ∀ j, bigs (bigSt n j).1 (bigSt n j).2 = n
  | 0 => rfl
  | j + 1 => by
    have hb := bigSt_bd n h0 h1 j
    have e : (bigSt n (j + 1)).1 * 256 + (((UInt8.ofNat ((bigSt n j).1 % 256).toNat).toNat : Nat) : Int) = (bigSt n j).1 := by
      rw [byte_of]; simp only [bigSt]; omega
    show bigs (bigSt n (j + 1)).1 (UInt8.ofNat ((bigSt n j).1 % 256).toNat :: (bigSt n j).2) = n
    rw [bigs, e, if_neg (by omega)]
    exact bigs_st n h0 h1 j
theorem big_back (n width : Int) (h : (putBigv n width).2 = true) : bigv (putBigv n width).1 = (n, true) ∧ ((putBigv n width).1.size : Int) = width := by
  unfold putBigv at h ⊢
  split at h
  · rename_i hv
    rw [if_pos hv]
    obtain ⟨h0, h1, h2, h3, h4⟩ := hv
    have hb := bigs_st n h0 h1 (width.toNat - 1)
    rw [h4] at hb
    have hl := bigSt_len n (width.toNat - 1)
    generalize (bigSt n (width.toNat - 1)).2 = l at hb hl
    have hsz : (⟨(128 :: l).toArray⟩ : ByteArray).size = l.length + 1 := by rw [show (⟨(128 :: l).toArray⟩ : ByteArray).size = (128 :: l).toArray.size from rfl]; simp
    refine ⟨?_, ?_⟩
    · show bigv ⟨(128 :: l).toArray⟩ = _
      have hh : (⟨(128 :: l).toArray⟩ : ByteArray).data.toList = 128 :: l := rfl
      rw [bigv, hsz, hh]
      simp only [List.drop_succ_cons, List.drop_zero, List.head?_cons]
      rw [hb, if_pos ⟨by omega, by omega, trivial, h0⟩]
    · show ((⟨(128 :: l).toArray⟩ : ByteArray).size : Int) = width
      rw [hsz]; omega
  · simp at h
end Go.Proofs.YtndgppabfdeecaaDoor
