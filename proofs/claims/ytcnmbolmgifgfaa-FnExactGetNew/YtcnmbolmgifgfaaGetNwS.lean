/- Contract of spec.GetNew. -/
import Derived.Test.YtcnmbolmgifgfaaGetNwR
import Derived.Laws.MakeOwn
namespace Go.Proofs.Ytcnmbolmgifgfaa
open Go.ChangeShapes Go.WideShapes Go.ChangeAt Go.RowKit Go.Deep

theorem isNul_nulN (n : Nat) : isNul (nulN n) = true := (isNul_iff _).2 (by rw [nulN_size])
theorem nul_of {s : ByteArray} {a b n : Nat} (h : isNul (s.extract a b) = true) (hb : b ≤ s.size) (hn : a + n = b) : s.extract a b = nulN n := by
  have h1 := (isNul_iff _).1 h
  rw [ByteArray.size_extract, show min b s.size - a = n from by omega] at h1
  exact h1
theorem rest_any (s : ByteArray) (j gb cp : Nat) (crc : Bool) (w : World) (hs : s.size ≤ 1048576) (hj : j + 110 ≤ s.size) (hm : s.extract j (j + 6) = mgN crc) (ho : ∀ k, k < 13 → nO s j k = true) (hz : nN s j 7 = 0 ∧ nN s j 8 = 0 ∧ nN s j 9 = 0 ∧ nN s j 10 = 0) (hgb : gb < w.heap.size) (hN : ∀ m, m < 13 → w.cell? ⟨gb, m, none⟩ = some (.int .i64 (nN s j m))) :
    Calls Try.prog 31 #[.string s, .int .i64 (j : Int), .slice (some ⟨gb, 0, none⟩) 13 cp, .bool crc] w fun e w' => e = .returned (ncV s j crc) ∧ Below w.heap.size w w' := by
  have b11 := nN_bd s j 11
  have b6 := nN_bd s j 6
  have e11 : nN s j 11 = ((nN s j 11).toNat : Int) := by omega
  have e6 : nN s j 6 = ((nN s j 6).toNat : Int) := by omega
  have eN : nmB s j = s.extract (j + 110) (j + 110 + (nN s j 11).toNat) := by simp only [nmB, nmE]
  have eD : dtT s j = s.extract (j + 110 + (nN s j 11).toNat + pad4 (110 + (nN s j 11).toNat)) (j + 110 + (nN s j 11).toNat + pad4 (110 + (nN s j 11).toNat) + (nN s j 6).toNat) := by simp only [dtT, dtB, dtE, nmE]
  have eE : cdE s j = j + 110 + (nN s j 11).toNat + pad4 (110 + (nN s j 11).toNat) + (nN s j 6).toNat + pad4 (nN s j 6).toNat := by simp only [cdE, dtB, dtE, nmE]
  have hbad : badN s j ↔ (¬ ((cutv (s.extract (j + 110) (j + 110 + (nN s j 11).toNat))).size : Int) + 1 = nN s j 11 ∨ ¬ s.extract (j + 110 + (nN s j 11).toNat) (j + 110 + (nN s j 11).toNat + pad4 (110 + (nN s j 11).toNat)) = nulN (pad4 (110 + (nN s j 11).toNat)) ∨ ¬ s.extract (j + 110 + (nN s j 11).toNat + pad4 (110 + (nN s j 11).toNat) + (nN s j 6).toNat) (j + 110 + (nN s j 11).toNat + pad4 (110 + (nN s j 11).toNat) + (nN s j 6).toNat + pad4 (nN s j 6).toNat) = nulN (pad4 (nN s j 6).toNat)) := by simp only [badN, nmB, cdE, dtB, dtE, nmE]
  have hV1 := fun h => nc_short hj hm ho hz h
  have hV2 := fun h b => nc_name hj hm ho hz h b
  have hV3 := fun h b q => nc_sum hj hm ho hz h b q
  have hV4 := fun h b q => nc_good hj hm ho hz h b q
  rw [eE] at hV1 hV2 hV3 hV4
  rw [eD] at hV3 hV4
  rw [eN] at hV4
  rw [hbad] at hV2 hV3 hV4
  clear eE eD eN hbad ho hm hz
  generalize ncV s j crc = V at hV1 hV2 hV3 hV4 ⊢
  obtain ⟨F, hF⟩ : ∃ F : Nat → Int, F = nN s j := ⟨_, rfl⟩
  rw [← hF] at hV1 hV2 hV3 hV4 hN b11 b6 e11 e6
  clear hF
  generalize hA : (F 11).toNat = A at *
  generalize hD : (F 6).toNat = D at *
  obtain ⟨q1, hq1⟩ : ∃ q1, q1 = pad4 (110 + A) := ⟨_, rfl⟩
  obtain ⟨q2, hq2⟩ : ∃ q2, q2 = pad4 D := ⟨_, rfl⟩
  rw [← hq1, ← hq2] at hV1 hV2 hV3 hV4
  refine rest_walk s j (j + 110) A D q1 q2 gb cp F crc V w hs rfl hj (by omega) (by omega) hq1 hq2 e11 e6 hgb hN hV1 ?_ ?_ ?_ ?_ ?_ ?_
  · intro h h0
    exact hV2 h (.inl (by omega))
  · intro h h0
    exact hV2 h (.inl (by omega))
  · intro h h0
    exact hV2 h (.inr (.inl (fun e => by rw [e, isNul_nulN] at h0; cases h0)))
  · intro h h0
    exact hV2 h (.inr (.inr (fun e => by rw [e, isNul_nulN] at h0; cases h0)))
  · intro h h0 h1 h2 h3 h4
    refine hV3 h ?_ h4
    rintro (b | b | b)
    · omega
    · exact b (nul_of h2 (by omega) rfl)
    · exact b (nul_of h3 (by omega) rfl)
  · intro h h0 h1 h2 h3 h4
    have h9 := hV4 h ?_ h4
    · rw [h9, show ((j + 110 + A + q1 + D + q2 : Nat) : Int) = ((j + 110 : Nat) : Int) + (A : Int) + (q1 : Int) + (D : Int) + (q2 : Int) from by omega]
    · rintro (b | b | b)
      · omega
      · exact b (nul_of h2 (by omega) rfl)
      · exact b (nul_of h3 (by omega) rfl)
theorem Try.infoN8 : (Try.prog.info? 3).map (fun i => (i.zero, i.size, i.bytes)) = some (some (.int .i64 0), 1, 8) := by kernel_rfl
def nlN (s : ByteArray) (j : Nat) : Nat → List Value
  | 0 => []
  | k + 1 => nlN s j k ++ [.int .i64 (nN s j k)]
theorem nlN_at (s : ByteArray) (j : Nat) : ∀ (n m : Nat), m < n → (nlN s j n)[m]? = some (.int .i64 (nN s j m)) := by
  intro n
  induction n with
  | zero => intro m h; omega
  | succ n ih =>
    intro m h
    have hl : (nlN s j n).length = n := by
      clear ih h m
      induction n with
      | zero => rfl
      | succ n ih => simp [nlN, ih]
    rw [nlN]
    by_cases e : m = n
    · subst e
      rw [List.getElem?_append_right (by omega), hl]
      simp
    · rw [List.getElem?_append_left (by omega)]
      exact ih m (by omega)
theorem cell_oneNN (w : World) (v : Value) (t : TypeId) : ∀ j u, [v][j]? = some u → (w.alloc (.cells #[v] t)).cell? ((⟨w.heap.size, 0, none⟩ : Addr).add j) = some u := by
  intro j u hj
  match j, hj with
  | 0, hj => simp at hj; subst hj; simp [Addr.add]
  | j + 1, hj => simp at hj
theorem str_neS {a b : ByteArray} (h : ¬ a = b) : (a.toList == b.toList) = false := by
  simp only [beq_eq_false_iff_ne, ne_eq]
  intro e
  apply h
  rw [ba_toList, ba_toList] at e
  exact ba_ext e
theorem ncV_form (s : ByteArray) (i : Int) (crc : Bool) : ∃ (x0 x1 x2 x3 x4 x5 : Int) (x6 x7 : ByteArray) (n c : Int), ncV s i crc = .tuple #[.agg #[.int .i64 x0, .int .i64 x1, .int .i64 x2, .int .i64 x3, .int .i64 x4, .int .i64 x5, .string x6, .string x7], .int .i64 n, .int .i64 c] :=
  ⟨(ncCard s i crc).Ino, (ncCard s i crc).Mode, (ncCard s i crc).Uid, (ncCard s i crc).Gid, (ncCard s i crc).Count, (ncCard s i crc).Time, (ncCard s i crc).Path, (ncCard s i crc).Data, ncNext s i crc, ncCode s i crc, rfl⟩
set_option maxHeartbeats 3200000 in
set_option maxRecDepth 8000 in
theorem getNew_short (s : ByteArray) (i : Int) (crc : Bool) (w : World) (hs : s.size ≤ 1048576) (hi0 : -9223372036854775808 ≤ i) (hi1 : i ≤ 9223372036854775807) (hc : i < 0 ∨ (s.size : Int) < i + 110) :
    Calls Try.prog 17 #[.string s, .int .i64 i, .bool crc] w fun e w' => e = .returned (ncV s i crc) ∧ Below w.heap.size w w' := by
  have HF : Hid (ncV s i crc = bdV i 1) := Lib.hid (nc_cut hc)
  have R := Lib.hid (CardO.new w zeroC)
  have B : Hid (Below w.heap.size w (w.alloc (.cells zeroC.cells.toArray 23))) := Lib.hid ((Below.refl _ _).alloc (Nat.le_refl _) _)
  generalize ncV s i crc = r at HF
  by_cases h1 : i < 0
  · clear hc
    simp only [zeroC, Card.cells] at R B
    go_enter Try.func17, Try.ntmps17
    obtain ⟨d0, d1, d2, d3, d4, d5, d6, d7⟩ := (show CardO _ w.heap.size zeroC from R.out).at.zero
    simp only [zeroC] at d0 d1 d2 d3 d4 d5 d6 d7
    have f0 := (show CardO _ w.heap.size zeroC from R.out).fz 0
    have f1 := (show CardO _ w.heap.size zeroC from R.out).fz 1
    have f2 := (show CardO _ w.heap.size zeroC from R.out).fz 2
    have f3 := (show CardO _ w.heap.size zeroC from R.out).fz 3
    have f4 := (show CardO _ w.heap.size zeroC from R.out).fz 4
    have f5 := (show CardO _ w.heap.size zeroC from R.out).fz 5
    have f6 := (show CardO _ w.heap.size zeroC from R.out).fz 6
    have f7 := (show CardO _ w.heap.size zeroC from R.out).fz 7
    go_wp2_with fail
    refine bodyPost_ret (res_OC3 rfl _ rfl R.out) rfl ?_
    exact ⟨by rw [HF.out]; rfl, B.out⟩
  · have h2 : (s.size : Int) - 110 < i := by omega
    clear hc
    simp only [zeroC, Card.cells] at R B
    go_enter Try.func17, Try.ntmps17
    obtain ⟨d0, d1, d2, d3, d4, d5, d6, d7⟩ := (show CardO _ w.heap.size zeroC from R.out).at.zero
    simp only [zeroC] at d0 d1 d2 d3 d4 d5 d6 d7
    have f0 := (show CardO _ w.heap.size zeroC from R.out).fz 0
    have f1 := (show CardO _ w.heap.size zeroC from R.out).fz 1
    have f2 := (show CardO _ w.heap.size zeroC from R.out).fz 2
    have f3 := (show CardO _ w.heap.size zeroC from R.out).fz 3
    have f4 := (show CardO _ w.heap.size zeroC from R.out).fz 4
    have f5 := (show CardO _ w.heap.size zeroC from R.out).fz 5
    have f6 := (show CardO _ w.heap.size zeroC from R.out).fz 6
    have f7 := (show CardO _ w.heap.size zeroC from R.out).fz 7
    go_wp2_with fail
    refine bodyPost_ret (res_OC3 rfl _ rfl R.out) rfl ?_
    exact ⟨by rw [HF.out]; rfl, B.out⟩
set_option maxHeartbeats 3200000 in
set_option maxRecDepth 8000 in
theorem getNew_spec (s : ByteArray) (j : Nat) (crc : Bool) (w : World) (hs : s.size ≤ 1048576) (hj : j + 110 ≤ s.size) :
    Calls Try.prog 17 #[.string s, .int .i64 (j : Int), .bool crc] w fun e w' => e = .returned (ncV s j crc) ∧ Below w.heap.size w w' := by
  obtain ⟨i0, hi0, hz0, hz1, hz2⟩ := info_parts Try.infoN8
  have R := Lib.hid (CardO.new w zeroC)
  have B : Hid (Below w.heap.size w (w.alloc (.cells zeroC.cells.toArray 23))) := Lib.hid ((Below.refl _ _).alloc (Nat.le_refl _) _)
  have h2 : ¬ (s.size : Int) - 110 < (j : Int) := by omega
  have hS6 := fun w => sl_at s (j : Int) ((j : Int) + 6) j (j + 6) rfl (by omega) (by omega) (by omega) w
  have HMg := Lib.hid (fun w => l08Magic_any crc w)
  simp only [zeroC, Card.cells] at R B
  by_cases hm : ¬ s.extract j (j + 6) = mgN crc
  · have HF : Hid (ncV s j crc = bdV j 4) := Lib.hid (nc_magic hj hm)
    have q := str_neS hm
    generalize ncV s j crc = V at HF
    clear hm
    generalize s.extract j (j + 6) = mg at hS6 q
    generalize mgN crc = mg2 at HMg q
    go_enter Try.func17, Try.ntmps17
    go_upto_region 3 with fail
    generalize World.alloc w _ = w1 at R B ⊢
    replace R : Hid (CardO w1 w.heap.size zeroC) := R
    go_quiet ((go_at_call 29; refine Calls.quiet_of_same ((HMg.out _).mono (fun e w' h => ⟨h.1, h.2⟩))))
    obtain ⟨w2, hwq⟩ : ∃ y, y = w1.drewN nq := ⟨_, rfl⟩
    replace R : Hid (CardO w2 w.heap.size zeroC) := Lib.hid (by rw [hwq]; exact R.out)
    replace B : Hid (Below w.heap.size w w2) := Lib.hid (by rw [hwq]; exact bel_drewS B.out)
    rw [← hwq]
    clear hwq q hS6 HMg
    obtain ⟨d0, d1, d2, d3, d4, d5, d6, d7⟩ := (R.out).at.zero
    simp only [zeroC] at d0 d1 d2 d3 d4 d5 d6 d7
    have f0 := (R.out).fz 0
    have f1 := (R.out).fz 1
    have f2 := (R.out).fz 2
    have f3 := (R.out).fz 3
    have f4 := (R.out).fz 4
    have f5 := (R.out).fz 5
    have f6 := (R.out).fz 6
    have f7 := (R.out).fz 7
    have R9 := (R.out).put zeroC
    have B9 := below_putOC (g := w.heap.size) (B.out) (Nat.le_refl _) zeroC
    simp only [putOC, zeroC] at R9 B9
    go_wp2_with fail
    refine bodyPost_ret (res_OC3 rfl _ rfl R9) rfl ?_
    exact ⟨by rw [HF.out]; rfl, B9⟩
  · have hm : s.extract j (j + 6) = mgN crc := Decidable.byContradiction hm
    have q : ((s.extract j (j + 6)).toList == (mgN crc).toList) = true := by rw [hm]; simp
    have HFld := Lib.hid (fun k hk h => nc_field hj hm (k := k) hk h)
    have HZe := Lib.hid (fun ho h => nc_zero hj hm ho h)
    have HRs := Lib.hid (fun ho hz gb cp w hgb hN => rest_any s j gb cp crc w hs hj hm ho hz hgb hN)
    clear hm
    generalize s.extract j (j + 6) = mg at hS6 q
    generalize mgN crc = mg2 at HMg q
    go_enter Try.func17, Try.ntmps17
    go_upto_region 3 with fail
    generalize World.alloc w _ = w1 at R B ⊢
    replace R : Hid (CardO w1 w.heap.size zeroC) := R
    go_quiet ((go_at_call 29; refine Calls.quiet_of_same ((HMg.out _).mono (fun e w' h => ⟨h.1, h.2⟩))))
    obtain ⟨w2, hwq⟩ : ∃ y, y = w1.drewN nq := ⟨_, rfl⟩
    replace R : Hid (CardO w2 w.heap.size zeroC) := Lib.hid (by rw [hwq]; exact R.out)
    replace B : Hid (Below w.heap.size w w2) := Lib.hid (by rw [hwq]; exact bel_drewS B.out)
    rw [← hwq]
    clear hwq q hS6 HMg
    have hlt1 := R.out.lt
    have O0 := World.ownsRow_lit (base := w.heap.size + 1) (e := 3) (size := 1) w2 #[] 0 (by omega) (by simp) rfl
    have NB := (Below.refl w2.heap.size w2).alloc (Nat.le_refl _) (.cells #[] 3)
    have O1 : Hid ((w2.alloc (.cells #[] 3)).ownsRow (w.heap.size + 1) 3 1 (.slice (some ⟨w2.heap.size, 0, none⟩) 0 0) 0 (nlN s j 0)) := Lib.hid O0
    have RW := Lib.hid (R.out.below NB hlt1)
    have BW := Lib.hid (btC B.out NB)
    clear O0 NB R B hlt1
    go_wp2_with fail
    go_loopw [9, 10, 11, 12] (fun v u _ _ wr => ∃ k : Nat, u = .int .i64 k ∧ k ≤ 13 ∧ (∀ m, m < k → nO s j m = true) ∧ wr.ownsRow (w.heap.size + 1) 3 1 v k (nlN s j k) ∧ (∃ gb cp, v = .slice (some ⟨gb, 0, none⟩) k cp) ∧ CardO wr w.heap.size zeroC ∧ Below w.heap.size w wr) (fun _ u _ _ _ => 13 - (intOf u).toNat)
    case atStart => exact ⟨0, rfl, by omega, fun m hm => by omega, O1.out, ⟨_, _, rfl⟩, RW.out, BW.out⟩
    case round =>
      obtain ⟨k, rfl, hk, hok, ho, ⟨gb, cp, rfl⟩, hr, hb⟩ := hrel
      clear O1 RW BW
      have OK := Lib.hid hok
      have O := Lib.hid ho
      have R := Lib.hid hr
      have B := Lib.hid hb
      have hszB := B.out.size
      clear hok ho hr hb
      by_cases hlt : k < 13
      · have hlt2 : (k : Int) < 13 := by omega
        have HFk := Lib.hid (HFld.out k hlt)
        have HOn : Hid (nO s j k = true → ∀ m, m < k + 1 → nO s j m = true) := Lib.hid (fun h m hm => by
          by_cases e : m = k
          · subst e; exact h
          · exact OK.out m (by omega))
        have HGo := Lib.hid (fun w => getHex_spec (nB s j k) w (by unfold nB; rw [ByteArray.size_extract]; omega))
        have HNl : Hid (nlN s j (k + 1) = nlN s j k ++ [.int .i64 (nN s j k)]) := Lib.hid rfl
        rw [show (getHexv (nB s j k).data.toList).1 = nN s j k from rfl, show (getHexv (nB s j k).data.toList).2 = nO s j k from rfl] at HGo
        have hS := fun w => sl_at s ((j : Int) + 6 + 8 * (k : Int)) ((j : Int) + 14 + 8 * (k : Int)) (j + 6 + 8 * k) (j + 14 + 8 * k) (by omega) (by omega) (by omega) (by omega) w
        rw [show s.extract (j + 6 + 8 * k) (j + 14 + 8 * k) = nB s j k from rfl] at hS
        generalize nB s j k = fb at hS HGo
        generalize nO s j k = okk at HFk HOn HGo
        generalize nN s j k = x at HNl HGo
        clear HZe HRs
        have w1 : IntKind.i64.wrap (8 * (k : Int)) = 8 * (k : Int) := by rw [IntKind.wrap_i64]; omega
        have w2 : IntKind.i64.wrap ((j : Int) + 6 + 8 * (k : Int)) = (j : Int) + 6 + 8 * (k : Int) := by rw [IntKind.wrap_i64]; omega
        have w3 : IntKind.i64.wrap ((j : Int) + 14 + 8 * (k : Int)) = (j : Int) + 14 + 8 * (k : Int) := by rw [IntKind.wrap_i64]; omega
        go_wp2_with fail
        refine (HGo.out _).mono ?_
        rintro e w3 ⟨rfl, rfl⟩
        cases okk with
        | false =>
          have HF := Lib.hid (HFk.out rfl)
          clear HFk HOn HGo hS
          obtain ⟨d0, d1, d2, d3, d4, d5, d6, d7⟩ := (R.out).at.zero
          simp only [zeroC] at d0 d1 d2 d3 d4 d5 d6 d7
          have f0 := (R.out).fz 0
          have f1 := (R.out).fz 1
          have f2 := (R.out).fz 2
          have f3 := (R.out).fz 3
          have f4 := (R.out).fz 4
          have f5 := (R.out).fz 5
          have f6 := (R.out).fz 6
          have f7 := (R.out).fz 7
          have R9 := (R.out).put zeroC
          have B9 := below_putOC (g := w.heap.size) (B.out) (Nat.le_refl _) zeroC
          simp only [putOC, zeroC] at R9 B9
          go_wp2_with fail
          refine bodyPost_ret (res_OC3 rfl _ rfl R9) rfl ?_
          exact ⟨by rw [HF.out]; rfl, B9⟩
        | true =>
          have HOm := Lib.hid (HOn.out rfl)
          clear HFk HOn HGo hS
          go_wp2_with (at_builtin; refine wpList_append_own_at _ rfl _ _ 37 rfl (w.heap.size + 1) 3 i0 (.int .i64 0) 1 8 Try.underlying37 hi0 hz0 hz1 hz2 rfl (by decide) _ _ _ rfl (World.ownsRow.alloc O.out _) ⟨wr.heap.size, 0, none⟩ 1 1 [.int .i64 x] rfl rfl ?c1 ?c2 ?c3 ?c4 ?c5 ?_)
          case c1 => intro jj uu hu; exact cell_oneNN _ _ _ jj uu hu
          case c2 => intro u hu; simp at hu; subst hu; rfl
          case c3 => simp only [maxLen]; omega
          case c4 => omega
          case c5 => simp; omega
          intro v4 w4 hown4 hgrow4 _ hob4
          have NA := (Below.refl wr.heap.size wr).alloc (Nat.le_refl _) (.cells #[.int .i64 x] 3)
          have hbk : ∀ b, (Value.slice (some ⟨gb, 0, none⟩) k cp).ownBlock = some b → w.heap.size + 1 ≤ b := fun b hb => (World.ownsRow.lt O.out b hb).1
          have O4 : Hid (w4.ownsRow (w.heap.size + 1) 3 1 v4 (k + 1) (nlN s j (k + 1))) := Lib.hid (by rw [HNl.out]; exact hown4)
          have V4 : Hid (∃ gb cp, v4 = .slice (some ⟨gb, 0, none⟩) (k + 1) cp) := Lib.hid (by
            rcases hown4.2 with ⟨_, hn⟩ | ⟨g', cap', cur, rfl, _⟩
            · omega
            · exact ⟨g', cap', rfl⟩)
          have R4 := Lib.hid ((R.out.below NA R.out.lt).grown hgrow4 (by simp [Value.ownBlock]; have := hbk gb rfl; omega))
          have B4 : Hid (Below w.heap.size w w4) := Lib.hid ((btC B.out NA).grown hgrow4 (by simp; omega) (fun b hb => by have := hbk b hb; omega))
          clear hown4 hgrow4 hob4 O R B NA hbk
          go_wp2_with fail
          go_roundw
          case rel => exact ⟨k + 1, by go_num, by omega, HOm.out, O4.out, V4.out, R4.out, B4.out⟩
          case measure => simp [intOf]; omega
      · obtain rfl : k = 13 := by omega
        have hlt2 : ¬ ((13 : Nat) : Int) < 13 := by omega
        have HOk : Hid (∀ m, m < 13 → nO s j m = true) := Lib.hid OK.out
        have HN : Hid (∀ m, m < 13 → wr.cell? ⟨gb, m, none⟩ = some (.int .i64 (nN s j m))) := Lib.hid (fun m hm => by
          have h := World.ownsRow.cells O.out (g := gb) rfl m _ (nlN_at s j 13 m hm)
          rwa [show (⟨gb, 0, none⟩ : Addr).add m = ⟨gb, m, none⟩ from by unfold Addr.add; split <;> simp_all] at h)
        have HGb : Hid (gb < wr.heap.size) := Lib.hid ((World.ownsRow.lt O.out gb rfl).2)
        have n7 := HN.out 7 (by omega)
        have n8 := HN.out 8 (by omega)
        have n9 := HN.out 9 (by omega)
        have n10 := HN.out 10 (by omega)
        have b7 := nN_bd s j 7
        have b8 := nN_bd s j 8
        have b9 := nN_bd s j 9
        have b10 := nN_bd s j 10
        have HZ2 := Lib.hid (HZe.out HOk.out)
        have HR2 := Lib.hid (fun hz => HRs.out HOk.out hz gb cp)
        clear HFld HZe HRs O OK HOk
        by_cases hz : ¬ (nN s j 7 = 0 ∧ nN s j 8 = 0 ∧ nN s j 9 = 0 ∧ nN s j 10 = 0)
        · have HF := Lib.hid (HZ2.out hz)
          clear HZ2 HR2 HN
          generalize nN s j 7 = x7 at *
          generalize nN s j 8 = x8 at *
          generalize nN s j 9 = x9 at *
          generalize nN s j 10 = x10 at *
          have a1 : IntKind.i64.wrap (x7 + x8) = x7 + x8 := by rw [IntKind.wrap_i64]; omega
          have a2 : IntKind.i64.wrap (x7 + x8 + x9) = x7 + x8 + x9 := by rw [IntKind.wrap_i64]; omega
          have a3 : IntKind.i64.wrap (x7 + x8 + x9 + x10) = x7 + x8 + x9 + x10 := by rw [IntKind.wrap_i64]; omega
          have q : (x7 + x8 + x9 + x10 != 0) = true := by
            have h9 : ¬ x7 + x8 + x9 + x10 = 0 := by omega
            simpa using h9
          clear b7 b8 b9 b10 hz
          go_upto_region 13 with fail
          go_quiet (fail)
          obtain ⟨w5, hwq⟩ : ∃ y, y = wr.drewN nq := ⟨_, rfl⟩
          replace R : Hid (CardO w5 w.heap.size zeroC) := Lib.hid (by rw [hwq]; exact R.out)
          replace B : Hid (Below w.heap.size w w5) := Lib.hid (by rw [hwq]; exact bel_drewS B.out)
          rw [← hwq]
          clear hwq n7 n8 n9 n10 q
          obtain ⟨d0, d1, d2, d3, d4, d5, d6, d7⟩ := (R.out).at.zero
          simp only [zeroC] at d0 d1 d2 d3 d4 d5 d6 d7
          have f0 := (R.out).fz 0
          have f1 := (R.out).fz 1
          have f2 := (R.out).fz 2
          have f3 := (R.out).fz 3
          have f4 := (R.out).fz 4
          have f5 := (R.out).fz 5
          have f6 := (R.out).fz 6
          have f7 := (R.out).fz 7
          have R9 := (R.out).put zeroC
          have B9 := below_putOC (g := w.heap.size) (B.out) (Nat.le_refl _) zeroC
          simp only [putOC, zeroC] at R9 B9
          go_wp2_with fail
          refine bodyPost_ret (res_OC3 rfl _ rfl R9) rfl ?_
          exact ⟨by rw [HF.out]; rfl, B9⟩
        · have hz : nN s j 7 = 0 ∧ nN s j 8 = 0 ∧ nN s j 9 = 0 ∧ nN s j 10 = 0 := Decidable.byContradiction hz
          have HR3 := Lib.hid (HR2.out hz)
          rw [hz.1] at n7
          rw [hz.2.1] at n8
          rw [hz.2.2.1] at n9
          rw [hz.2.2.2] at n10
          obtain ⟨x0, x1, x2, x3, x4, x5, x6, x7, n, c, hg⟩ := ncV_form s j crc
          rw [hg] at HR3
          have HG := Lib.hid hg
          clear hg HZ2 HR2 hz b7 b8 b9 b10
          go_upto_region 13 with fail
          go_quiet (fail)
          obtain ⟨w5, hwq⟩ : ∃ y, y = wr.drewN nq := ⟨_, rfl⟩
          replace R : Hid (CardO w5 w.heap.size zeroC) := Lib.hid (by rw [hwq]; exact R.out)
          replace B : Hid (Below w.heap.size w w5) := Lib.hid (by rw [hwq]; exact bel_drewS B.out)
          replace HN : Hid (∀ m, m < 13 → w5.cell? ⟨gb, m, none⟩ = some (.int .i64 (nN s j m))) := Lib.hid (by rw [hwq]; exact HN.out)
          replace HGb : Hid (gb < w5.heap.size) := Lib.hid (by rw [hwq]; exact HGb.out)
          rw [← hwq]
          clear hwq n7 n8 n9 n10
          go_wp2_with fail
          refine (HR3.out w5 HGb.out HN.out).mono ?_
          rintro e w6 ⟨rfl, hb⟩
          have R6 : Hid (CardO w6 w.heap.size zeroC) := Lib.hid (R.out.below hb R.out.lt)
          have B6 : Hid (Below w.heap.size w w6) := Lib.hid (btC B.out hb)
          clear hb HR3 R B HN HGb
          obtain ⟨d0, d1, d2, d3, d4, d5, d6, d7⟩ := (R6.out).at.zero
          simp only [zeroC] at d0 d1 d2 d3 d4 d5 d6 d7
          have f0 := R6.out.fz 0
          have f1 := R6.out.fz 1
          have f2 := R6.out.fz 2
          have f3 := R6.out.fz 3
          have f4 := R6.out.fz 4
          have f5 := R6.out.fz 5
          have f6 := R6.out.fz 6
          have f7 := R6.out.fz 7
          have R9 := R6.out.put ⟨x0, x1, x2, x3, x4, x5, x6, x7⟩
          have B9 := below_putOC (g := w.heap.size) B6.out (Nat.le_refl _) ⟨x0, x1, x2, x3, x4, x5, x6, x7⟩
          simp only [putOC] at R9 B9
          have HR := Lib.hid R9
          have HB := Lib.hid B9
          clear R9 B9
          go_wp2_with fail
          refine bodyPost_ret (res_OC3 rfl _ rfl HR.out) rfl ?_
          exact ⟨by rw [HG.out]; rfl, HB.out⟩
end Go.Proofs.Ytcnmbolmgifgfaa
