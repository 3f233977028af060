/- Contract of impl.GetNew. -/
import Derived.Test.YtcnmbolmgifgfaaNrN
import Derived.Test.YtcnmbolmgifgfaaNrT
import Derived.Test.YtcnmbolmgifgfaaNrJ
import Derived.Test.YtcnmbolmgifgfaaNrS
import Derived.Test.YtcnmbolmgifgfaaGetNwJ
import Derived.Test.YtcnmbolmgifgfaaRegU
import Derived.Test.YtcnmbolmgifgfaaRegSl
namespace Go.Proofs.Ytcnmbolmgifgfaa
open Go.ChangeShapes Go.WideShapes Go.ChangeAt Go.RowKit Go.Deep

def nr0 (s : ByteArray) (j : Nat) (crc : Bool) : Nr := ⟨0, 0, 0, 0, 0, 0, ⟨#[]⟩, ⟨#[]⟩, 0, 0, 0, 0, 0, 0, 0, crc, s.extract j s.size, ⟨#[]⟩, ⟨#[]⟩, ⟨#[]⟩⟩
theorem nr0_K (s : ByteArray) (j : Nat) (crc : Bool) : ({ nr0 s j crc with rest := s.extract (j + 6) s.size } : Nr) = nrK s j crc 0 := by simp [nr0, nrK, nrF]
theorem takeMagic0 (s : ByteArray) (j : Nat) (crc : Bool) (g : Nat) (w : World) (h : NrO w g (nr0 s j crc)) (hj : j + 110 ≤ s.size) :
    Calls Try.prog 32 #[.pointer (some ⟨g, 0, none⟩)] w fun e w' => e = .returned (.int .i64 (if s.extract j (j + 6) = mgN crc then 0 else 4)) ∧ (s.extract j (j + 6) = mgN crc → NrO w' g (nrK s j crc 0)) ∧ Below g w w' := by
  have hr : (nr0 s j crc).rest = s.extract j s.size := rfl
  have e1 := ext_preN s j 6 s.size (by omega) (Nat.le_refl _)
  have e2 := ext_sufN s j 6 s.size (by omega) (Nat.le_refl _)
  have h9 := takeMagic_any g (nr0 s j crc) w h (by rw [hr, ByteArray.size_extract]; omega)
  rw [hr, e1, e2, nr0_K, show (nr0 s j crc).crc = crc from rfl] at h9
  refine h9.mono ?_
  rintro e w' ⟨h1, h2, h3⟩
  refine ⟨h1, fun hm => ?_, h3⟩
  rw [if_pos hm] at h2
  exact h2
/-- The reader behind its texts. -/
def nr3 (s : ByteArray) (j : Nat) (crc : Bool) : Nr := ⟨nN s j 0, nN s j 1, nN s j 2, nN s j 3, nN s j 4, nN s j 5, ⟨#[]⟩, dtT s j, nN s j 6, nN s j 7, nN s j 8, nN s j 9, nN s j 10, nN s j 11, nN s j 12, crc, s.extract (cdE s j) s.size, nmB s j, s.extract (nmE s j) (dtB s j), s.extract (dtE s j) (cdE s j)⟩
def nr4 (s : ByteArray) (j : Nat) (crc : Bool) : Nr := { nr3 s j crc with pa := cutv (nmB s j) }
theorem takeTexts_N (N : Nat → Int) (s : ByteArray) (p : Nat) (crc : Bool) (g : Nat) (w : World) (h : NrO w g ⟨N 0, N 1, N 2, N 3, N 4, N 5, ⟨#[]⟩, ⟨#[]⟩, N 6, N 7, N 8, N 9, N 10, N 11, N 12, crc, s.extract p s.size, ⟨#[]⟩, ⟨#[]⟩, ⟨#[]⟩⟩) (b11 : 0 ≤ N 11 ∧ N 11 ≤ 4294967295) (b6 : 0 ≤ N 6 ∧ N 6 ≤ 4294967295) (hp : p ≤ s.size) (hs : s.size ≤ 1048576) :
    Calls Try.prog 34 #[.pointer (some ⟨g, 0, none⟩)] w fun e w' => e = .returned (.int .i64 (if s.size < p + (N 11).toNat + pad4 (110 + (N 11).toNat) + (N 6).toNat + pad4 (N 6).toNat then 1 else 0)) ∧ (¬ s.size < p + (N 11).toNat + pad4 (110 + (N 11).toNat) + (N 6).toNat + pad4 (N 6).toNat → NrO w' g ⟨N 0, N 1, N 2, N 3, N 4, N 5, ⟨#[]⟩, s.extract (p + (N 11).toNat + pad4 (110 + (N 11).toNat)) (p + (N 11).toNat + pad4 (110 + (N 11).toNat) + (N 6).toNat), N 6, N 7, N 8, N 9, N 10, N 11, N 12, crc, s.extract (p + (N 11).toNat + pad4 (110 + (N 11).toNat) + (N 6).toNat + pad4 (N 6).toNat) s.size, s.extract p (p + (N 11).toNat), s.extract (p + (N 11).toNat) (p + (N 11).toNat + pad4 (110 + (N 11).toNat)), s.extract (p + (N 11).toNat + pad4 (110 + (N 11).toNat) + (N 6).toNat) (p + (N 11).toNat + pad4 (110 + (N 11).toNat) + (N 6).toNat + pad4 (N 6).toNat)⟩) ∧ Below g w w' :=
  takeTexts_any g _ s p (N 11).toNat (N 6).toNat w h rfl (by show N 11 = _; omega) (by show N 6 = _; omega) hp hs (by omega) (by omega)
theorem takeTexts1 (s : ByteArray) (j : Nat) (crc : Bool) (g : Nat) (w : World) (h : NrO w g (nrK s j crc 13)) (hj : j + 110 ≤ s.size) (hs : s.size ≤ 1048576) :
    Calls Try.prog 34 #[.pointer (some ⟨g, 0, none⟩)] w fun e w' => e = .returned (.int .i64 (if s.size < cdE s j then 1 else 0)) ∧ (¬ s.size < cdE s j → NrO w' g (nr3 s j crc)) ∧ Below g w w' := by
  have b11 := nN_bd s j 11
  have b6 := nN_bd s j 6
  rw [nrK_13] at h
  simp only [nr3, dtT, nmB, cdE, dtE, dtB, nmE]
  exact takeTexts_N (nN s j) s (j + 110) crc g w h b11 b6 (by omega) hs
theorem jOk_bad (s : ByteArray) (j : Nat) (crc : Bool) : jOk (nr3 s j crc) (nN s j 11).toNat (nN s j 6).toNat ↔ ¬ badN s j := by
  have b11 := nN_bd s j 11
  simp only [jOk, badN, nr3]
  rw [show (((nN s j 11).toNat : Nat) : Int) = nN s j 11 from by omega]
  constructor
  · rintro ⟨h1, h2, h3⟩ (h | h | h)
    · exact h h1
    · exact h h2
    · exact h h3
  · intro h
    exact ⟨Decidable.byContradiction fun q => h (.inl q), Decidable.byContradiction fun q => h (.inr (.inl q)), Decidable.byContradiction fun q => h (.inr (.inr q))⟩
theorem judgeTexts1 (s : ByteArray) (j : Nat) (crc : Bool) (g : Nat) (w : World) (h : NrO w g (nr3 s j crc)) (hs : s.size ≤ 1048576) :
    Calls Try.prog 35 #[.pointer (some ⟨g, 0, none⟩)] w fun e w' => e = .returned (.int .i64 (if badN s j then 4 else 0)) ∧ NrO w' g (nr4 s j crc) ∧ Below g w w' := by
  have b11 := nN_bd s j 11
  have b6 := nN_bd s j 6
  have e1 : (nr3 s j crc).ps = ((nN s j 11).toNat : Int) := by simp only [nr3]; omega
  have e2 : (nr3 s j crc).ds = ((nN s j 6).toNat : Int) := by simp only [nr3]; omega
  have e3 : (nr3 s j crc).nm.size ≤ 4294967295 := by simp only [nr3, nmB]; rw [ByteArray.size_extract]; omega
  have e4 : nr4 s j crc = { nr3 s j crc with pa := cutv (nr3 s j crc).nm } := by simp only [nr4, nr3]
  have h9 := judgeTexts_any g (nr3 s j crc) (nN s j 11).toNat (nN s j 6).toNat w h e1 e2 (by omega) (by omega) e3
  rw [show (if jOk (nr3 s j crc) (nN s j 11).toNat (nN s j 6).toNat then (0 : Int) else 4) = (if badN s j then 4 else 0) from by
    by_cases hb : badN s j
    · rw [if_pos hb, if_neg (fun q => (jOk_bad s j crc).1 q hb)]
    · rw [if_neg hb, if_pos ((jOk_bad s j crc).2 hb)]] at h9
  rw [e4]
  exact h9
theorem judgeSum1 (s : ByteArray) (j : Nat) (crc : Bool) (g : Nat) (w : World) (h : NrO w g (nr4 s j crc)) (hs : s.size ≤ 1048576) :
    Calls Try.prog 36 #[.pointer (some ⟨g, 0, none⟩)] w fun e w' => e = .returned (.int .i64 (if nN s j 12 = sumN crc (dtT s j) then 0 else 2)) ∧ NrO w' g (nr4 s j crc) ∧ Below g w w' := by
  have e1 : (nr4 s j crc).sm = nN s j 12 := by simp only [nr4, nr3]
  have e2 : (nr4 s j crc).crc = crc := by simp only [nr4, nr3]
  have e3 : (nr4 s j crc).da = dtT s j := by simp only [nr4, nr3]
  have h9 := judgeSum_any g (nr4 s j crc) w h (by rw [e3]; unfold dtT; rw [ByteArray.size_extract]; omega)
  rw [e1, e2, e3] at h9
  exact h9
set_option maxHeartbeats 3200000 in
set_option maxRecDepth 8000 in
theorem getNew_ishort (s : ByteArray) (i : Int) (crc : Bool) (w : World) (hs : s.size ≤ 1048576) (hi : i ≤ 9223372036854775807) (hc : i < 0 ∨ (s.size : Int) < i + 110) :
    Calls Try.prog 18 #[.string s, .int .i64 i, .bool crc] w fun e w' => e = .returned (ncV s i crc) ∧ Below w.heap.size w w' := by
  have HF : Hid (ncV s i crc = bdV i 1) := Lib.hid (nc_cut hc)
  have R := Lib.hid (CardO.new w zeroC)
  have B : Hid (Below w.heap.size w (w.alloc (.cells zeroC.cells.toArray 23))) := Lib.hid ((Below.refl _ _).alloc (Nat.le_refl _) _)
  generalize ncV s i crc = r at HF
  by_cases h1 : i < 0
  · clear hc
    simp only [zeroC, Card.cells] at R B
    go_enter Try.func18, Try.ntmps18
    obtain ⟨d0, d1, d2, d3, d4, d5, d6, d7⟩ := (show CardO _ w.heap.size zeroC from R.out).at.zero
    simp only [zeroC] at d0 d1 d2 d3 d4 d5 d6 d7
    have f0 := (show CardO _ w.heap.size zeroC from R.out).fz 0
    have f1 := (show CardO _ w.heap.size zeroC from R.out).fz 1
    have f2 := (show CardO _ w.heap.size zeroC from R.out).fz 2
    have f3 := (show CardO _ w.heap.size zeroC from R.out).fz 3
    have f4 := (show CardO _ w.heap.size zeroC from R.out).fz 4
    have f5 := (show CardO _ w.heap.size zeroC from R.out).fz 5
    have f6 := (show CardO _ w.heap.size zeroC from R.out).fz 6
    have f7 := (show CardO _ w.heap.size zeroC from R.out).fz 7
    go_wp2_with fail
    refine bodyPost_ret (res_OC3 rfl _ rfl R.out) rfl ?_
    exact ⟨by rw [HF.out]; rfl, B.out⟩
  · have h2 : (s.size : Int) - i < 110 := by omega
    clear hc
    simp only [zeroC, Card.cells] at R B
    go_enter Try.func18, Try.ntmps18
    obtain ⟨d0, d1, d2, d3, d4, d5, d6, d7⟩ := (show CardO _ w.heap.size zeroC from R.out).at.zero
    simp only [zeroC] at d0 d1 d2 d3 d4 d5 d6 d7
    have f0 := (show CardO _ w.heap.size zeroC from R.out).fz 0
    have f1 := (show CardO _ w.heap.size zeroC from R.out).fz 1
    have f2 := (show CardO _ w.heap.size zeroC from R.out).fz 2
    have f3 := (show CardO _ w.heap.size zeroC from R.out).fz 3
    have f4 := (show CardO _ w.heap.size zeroC from R.out).fz 4
    have f5 := (show CardO _ w.heap.size zeroC from R.out).fz 5
    have f6 := (show CardO _ w.heap.size zeroC from R.out).fz 6
    have f7 := (show CardO _ w.heap.size zeroC from R.out).fz 7
    go_wp2_with fail
    refine bodyPost_ret (res_OC3 rfl _ rfl R.out) rfl ?_
    exact ⟨by rw [HF.out]; rfl, B.out⟩
theorem if_z {P : Prop} [Decidable P] {c : Int} (hc : ¬ c = 0) (h : (if P then (0 : Int) else c) = 0) : P := Decidable.byContradiction fun q => hc (by rwa [if_neg q] at h)
theorem if_nz {P : Prop} [Decidable P] {c : Int} (hc : ¬ c = 0) (h : (if P then c else (0 : Int)) = 0) : ¬ P := fun q => hc (by rwa [if_pos q] at h)
theorem tnC_zero {s : ByteArray} {j : Nat} (h : tnC s j = 0) : (∀ k, k < 13 → nO s j k = true) ∧ (nN s j 7 = 0 ∧ nN s j 8 = 0 ∧ nN s j 9 = 0 ∧ nN s j 10 = 0) := by
  have q := if_z (by decide) h
  exact ⟨fun k hk => List.all_eq_true.1 q.1 k (List.mem_range.2 hk), q.2⟩
theorem tnC_bad {s : ByteArray} {j : Nat} {crc : Bool} (hj : j + 110 ≤ s.size) (hm : s.extract j (j + 6) = mgN crc) (h0 : ¬ tnC s j = 0) : ncV s j crc = bdV j (tnC s j) := by
  by_cases hq : allN s j = true ∧ (nN s j 7 = 0 ∧ nN s j 8 = 0 ∧ nN s j 9 = 0 ∧ nN s j 10 = 0)
  · exact absurd (by rw [tnC, if_pos hq]) h0
  · rw [show tnC s j = 3 from by rw [tnC, if_neg hq]]
    by_cases ha : allN s j = true
    · exact nc_zero hj hm (fun k hk => List.all_eq_true.1 ha k (List.mem_range.2 hk)) (fun z => hq ⟨ha, z⟩)
    · obtain ⟨k, hk, hb⟩ := List.all_eq_false.1 (show (List.range 13).all (nO s j) = false from by simpa [allN] using ha)
      exact nc_field hj hm (List.mem_range.1 hk) (by simpa using hb)
theorem nc_last {s : ByteArray} {j : Nat} {crc : Bool} (hj : j + 110 ≤ s.size) (hm : s.extract j (j + 6) = mgN crc) (h0 : tnC s j = 0) (hs : ¬ s.size < cdE s j) (hb : ¬ badN s j) (hq : nN s j 12 = sumN crc (dtT s j)) : ncV s j crc = .tuple #[.agg (Card.cells ⟨(nr4 s j crc).n0, (nr4 s j crc).n1, (nr4 s j crc).n2, (nr4 s j crc).n3, (nr4 s j crc).n4, (nr4 s j crc).n5, (nr4 s j crc).pa, (nr4 s j crc).da⟩).toArray, .int .i64 ((s.size : Int) - ((nr4 s j crc).rest.size : Int)), .int .i64 0] := by
  have e : (s.size : Int) - ((nr4 s j crc).rest.size : Int) = (cdE s j : Int) := by
    simp only [nr4, nr3]
    rw [ByteArray.size_extract]
    omega
  rw [e, nc_good hj hm (tnC_zero h0).1 (tnC_zero h0).2 hs hb hq]
  simp only [nr4, nr3]
theorem getNew_ilong (s : ByteArray) (j : Nat) (crc : Bool) (w : World) (hs : s.size ≤ 1048576) (hj : j + 110 ≤ s.size) :
    Calls Try.prog 18 #[.string s, .int .i64 (j : Int), .bool crc] w fun e w' => e = .returned (ncV s j crc) ∧ Below w.heap.size w w' := by
  refine getNew_walk s j crc (nrK s j crc 0) (nrK s j crc 13) (nr3 s j crc) (nr4 s j crc) (nr4 s j crc) (if s.extract j (j + 6) = mgN crc then 0 else 4) (tnC s j) (if s.size < cdE s j then 1 else 0) (if badN s j then 4 else 0) (if nN s j 12 = sumN crc (dtT s j) then 0 else 2) (ncV s j crc) w hs hj ?_ ?_ ?_ ?_ ?_ ?_ ?_ ?_ ?_ ?_ ?_ ?_
  · intro g w h
    refine (takeMagic0 s j crc g w h hj).mono ?_
    rintro e w' ⟨h1, h2, h3⟩
    exact ⟨h1, fun q => h2 (if_z (by decide) q), h3⟩
  · intro h
    have hm : ¬ s.extract j (j + 6) = mgN crc := fun q => h (if_pos q)
    rw [if_neg hm]
    exact nc_magic hj hm
  · intro g w h
    exact takeNumbers_any s j crc g w hj h
  · intro h1 h
    exact tnC_bad hj (if_z (by decide) h1) h
  · intro g w h
    refine (takeTexts1 s j crc g w h hj hs).mono ?_
    rintro e w' ⟨h1, h2, h3⟩
    exact ⟨h1, fun q => h2 (if_nz (by decide) q), h3⟩
  · intro h1 h2 h
    have q : s.size < cdE s j := Decidable.byContradiction fun q => h (if_neg q)
    rw [if_pos q]
    exact nc_short hj (if_z (by decide) h1) (tnC_zero h2).1 (tnC_zero h2).2 q
  · intro g w h
    refine (judgeTexts1 s j crc g w h hs).mono ?_
    rintro e w' ⟨h1, h2, h3⟩
    exact ⟨h1, fun _ => h2, h3⟩
  · intro h1 h2 h3 h
    have q : badN s j := Decidable.byContradiction fun q => h (if_neg q)
    rw [if_pos q]
    exact nc_name hj (if_z (by decide) h1) (tnC_zero h2).1 (tnC_zero h2).2 (if_nz (by decide) h3) q
  · intro g w h
    refine (judgeSum1 s j crc g w h hs).mono ?_
    rintro e w' ⟨h1, h2, h3⟩
    exact ⟨h1, fun _ => h2, h3⟩
  · intro h1 h2 h3 h4 h
    have q : ¬ nN s j 12 = sumN crc (dtT s j) := fun q => h (if_pos q)
    rw [if_neg q]
    exact nc_sum hj (if_z (by decide) h1) (tnC_zero h2).1 (tnC_zero h2).2 (if_nz (by decide) h3) (if_nz (by decide) h4) q
  · simp only [nr4, nr3]
    rw [ByteArray.size_extract]
    omega
  · intro h1 h2 h3 h4 h5
    exact nc_last hj (if_z (by decide) h1) h2 (if_nz (by decide) h3) (if_nz (by decide) h4) (if_z (by decide) h5)
theorem getNew_impl (s : ByteArray) (i : Int) (crc : Bool) (w : World) (hs : s.size ≤ 1048576) (hi : i ≤ 9223372036854775807) :
    Calls Try.prog 18 #[.string s, .int .i64 i, .bool crc] w fun e w' => e = .returned (ncV s i crc) ∧ Below w.heap.size w w' := by
  by_cases h : i < 0 ∨ (s.size : Int) < i + 110
  · exact getNew_ishort s i crc w hs hi h
  · obtain ⟨j, rfl⟩ : ∃ j : Nat, i = j := ⟨i.toNat, by omega⟩
    exact getNew_ilong s j crc w hs (by omega)
end Go.Proofs.Ytcnmbolmgifgfaa
