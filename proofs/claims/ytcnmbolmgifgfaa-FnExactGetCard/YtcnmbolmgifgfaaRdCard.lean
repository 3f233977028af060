/- Contract of impl.readCard: a card read at a place, or the panic that tells what is wrong. -/
import Derived.Test.YtcnmbolmgifgfaaHdOf
import Derived.Test.YtcnmbolmgifgfaaCutP
import Derived.Test.YtcnmbolmgifgfaaClone
namespace Go.Proofs.Ytcnmbolmgifgfaa
open Go.ChangeShapes Go.WideShapes Go.ChangeAt Go.RowKit Go.Deep

def rdE (s : ByteArray) (i : Int) : Ending := if cdCode s i = 0 then .returned (.tuple #[.agg (cdCard s i).cells.toArray, .int .i64 (cdNext s i)]) else .panicked (panC (cdCode s i))
theorem rdE_bad {s : ByteArray} {i c : Int} (h : badCd s i c) (hc : ¬ c = 0) : rdE s i = .panicked (panC c) := by rw [rdE, if_neg (by rw [h.1]; exact hc), h.1]
theorem readCard_short (s : ByteArray) (i : Int) (w : World) (hs : s.size ≤ 1048576) (hi : i < 0 ∨ (s.size : Int) < i + 76) (hb : i ≤ 9223372036854775807) :
    Calls Try.prog 26 #[.string s, .int .i64 i] w fun e w' => e = rdE s i ∧ Below w.heap.size w w' := by
  have HE := Lib.hid (rdE_bad (cd_cut hi) (by decide))
  generalize rdE s i = E at HE
  by_cases h0 : 0 ≤ i
  · have h1 : ¬ (76 : Int) ≤ (s.size : Int) - i := by omega
    clear hi
    go_enter Try.func26, Try.ntmps26
    go_wp2_with fail
    refine (demand_no 1 _).mono ?_
    rintro e w8 ⟨rfl, rfl⟩
    exact ⟨rfl, by rw [HE.out], (Below.refl _ _).alloc (Nat.le_refl _) _⟩
  · clear hi
    go_enter Try.func26, Try.ntmps26
    go_wp2_with fail
    refine (demand_no 1 _).mono ?_
    rintro e w8 ⟨rfl, rfl⟩
    exact ⟨rfl, by rw [HE.out], (Below.refl _ _).alloc (Nat.le_refl _) _⟩
theorem results_cell2 {P : Program} {fn : Func} {p u1 : Tmp} {ty : TypeId} (h : fn.results = #[.cell p ty, .tmp u1]) (tmps : Array Value) (w : World) (g : Nat) (t : TypeId) (cs : Array Value) (fr : Nat × Nat) (d : TypeDesc)
    (hp : tmps.getD p undef = .pointer (some ⟨g, 0, none⟩)) (hg : w.heap[g]? = some (.cells cs t fr))
    (hu : P.underlying ty = some d) (hd : (match d with | .struct _ | .array _ _ => true | _ => false) = true) (hi : (P.info? ty).map (·.size) = some cs.size) :
    (results fn tmps).run P w = .ok (.tuple #[.agg cs, tmps.getD u1 undef]) w := by
  have hp' : tmps[p]?.getD undef = .pointer (some ⟨g, 0, none⟩) := by simpa using hp
  simp [results, h, hp', asAddr, run_loadVar_row w g t ty cs fr d hg hu hd hi]
theorem res_OC2 {fn : Func} {p u1 : Tmp} (h : fn.results = #[.cell p 23, .tmp u1]) (tmps : Array Value) {w : World} {g : Nat} {e : Card}
    (hp : tmps.getD p undef = .pointer (some ⟨g, 0, none⟩)) (hg : CardO w g e) : (results fn tmps).run Try.prog w = .ok (.tuple #[.agg e.cells.toArray, tmps.getD u1 undef]) w :=
  results_cell2 h _ _ g _ e.cells.toArray (0, 0) _ hp hg Try.underlying23 rfl (by rw [Try.sizeOC]; rfl)
theorem rd_magic {s : ByteArray} {j : Nat} (h : j + 76 ≤ s.size) (hm : ¬ s.extract j (j + 6) = magicB) : rdE s j = .panicked (panC 4) := rdE_bad (cd_magic h hm) (by decide)
theorem allO_all {s : ByteArray} {j : Nat} (h : allO s j = true) : ∀ k, k < 10 → fO s j k = true := fun k hk => List.all_eq_true.1 h k (List.mem_range.2 hk)
theorem rd_head {s : ByteArray} {j : Nat} (h : j + 76 ≤ s.size) (hm : s.extract j (j + 6) = magicB) (hh : ¬ (allO s j = true ∧ fN s j 0 = 0 ∧ fN s j 6 = 0)) : rdE s j = .panicked (panC 3) := by
  apply rdE_bad _ (by decide)
  refine badCd_of ?_ (by decide)
  rw [cdCode, if_neg (by omega), Int.toNat_natCast, if_neg (by simp [hm])]
  by_cases ha : allO s j = false
  · rw [if_pos ha]
  · rw [if_neg ha, if_pos]
    have ha : allO s j = true := by simpa using ha
    by_cases h0 : fN s j 0 = 0
    · exact .inr (fun h6 => hh ⟨ha, h0, h6⟩)
    · exact .inl h0
theorem rd_short {s : ByteArray} {j : Nat} (h : j + 76 ≤ s.size) (hm : s.extract j (j + 6) = magicB) (hh : allO s j = true ∧ fN s j 0 = 0 ∧ fN s j 6 = 0) (hs : (s.size : Int) < j + 76 + fN s j 8 + fN s j 9) : rdE s j = .panicked (panC 1) :=
  rdE_bad (cd_short h hm (allO_all hh.1) hh.2 hs) (by decide)
theorem rd_name {s : ByteArray} {j : Nat} (h : j + 76 ≤ s.size) (hm : s.extract j (j + 6) = magicB) (hh : allO s j = true ∧ fN s j 0 = 0 ∧ fN s j 6 = 0) (hs : ¬ (s.size : Int) < j + 76 + fN s j 8 + fN s j 9) (hn : ¬ ((cutv (nameB s j)).size : Int) + 1 = fN s j 8) : rdE s j = .panicked (panC 4) :=
  rdE_bad (cd_name h hm (allO_all hh.1) hh.2 hs (by omega)) (by decide)
theorem rd_good {s : ByteArray} {j : Nat} (h : j + 76 ≤ s.size) (hm : s.extract j (j + 6) = magicB) (hh : allO s j = true ∧ fN s j 0 = 0 ∧ fN s j 6 = 0) (hs : ¬ (s.size : Int) < j + 76 + fN s j 8 + fN s j 9) (hn : ((cutv (nameB s j)).size : Int) + 1 = fN s j 8) : rdE s j = .returned (.tuple #[.agg (Card.cells ⟨fN s j 1, fN s j 2, fN s j 3, fN s j 4, fN s j 5, fN s j 7, cutv (nameB s j), s.extract (j + 76 + (fN s j 8).toNat) (j + 76 + (fN s j 8).toNat + (fN s j 9).toNat)⟩).toArray, .int .i64 (j + 76 + fN s j 8 + fN s j 9)]) := by
  obtain ⟨g0, g1, g2⟩ := cd_good h hm (allO_all hh.1) hh.2 hs (by omega)
  rw [rdE, if_pos g0, g1, g2]
set_option maxHeartbeats 3200000 in
set_option maxRecDepth 8000 in
theorem readCard_long (s : ByteArray) (j : Nat) (w : World) (hs : s.size ≤ 1048576) (hj : j + 76 ≤ s.size) :
    Calls Try.prog 26 #[.string s, .int .i64 (j : Int)] w fun e w' => e = rdE s j ∧ Below w.heap.size w w' := by
  have HM := Lib.hid (fun h => rd_magic hj h)
  have HH := Lib.hid (fun hm h => rd_head hj hm h)
  have HSh := Lib.hid (fun hm hh h => rd_short hj hm hh h)
  have HN := Lib.hid (fun hm hh hs h => rd_name hj hm hh hs h)
  have HG := Lib.hid (fun hm hh hs h => rd_good hj hm hh hs h)
  generalize rdE s j = E at HM HH HSh HN HG
  have HS76 := Lib.hid (fun w => sl_at s (j : Int) ((j : Int) + 76) j (j + 76) rfl (by omega) (by omega) (by omega) w)
  have h1 : (76 : Int) ≤ (s.size : Int) - (j : Int) := by omega
  have hz76 : (s.extract j (j + 76)).size = 76 := by rw [ByteArray.size_extract]; omega
  have HP := Lib.hid (fun w => cutPre_any (s.extract j (j + 76)) magicB w (by rw [hz76]; decide))
  have e6 : (s.extract j (j + 76)).extract 0 magicB.size = s.extract j (j + 6) := ext_pre s j 6 (j + 76) (by omega) (by omega)
  have e7 : (s.extract j (j + 76)).extract magicB.size (s.extract j (j + 76)).size = s.extract (j + 6) (j + 76) := ext_suf s j 6 (j + 76) (by omega) (by omega)
  rw [e6, e7] at HP
  clear e6 e7 hz76
  have HHd := Lib.hid (fun w => headOf_any s j w hs hj)
  have R := Lib.hid (CardO.new w zeroC)
  have B : Hid (Below w.heap.size w (w.alloc (.cells zeroC.cells.toArray 23))) := Lib.hid ((Below.refl _ _).alloc (Nat.le_refl _) _)
  by_cases hm : s.extract j (j + 6) = magicB
  · rw [hm, show (magicB.toList == magicB.toList) = true from by simp, if_pos rfl] at HP
    have HH1 := Lib.hid (HH.out hm)
    have HSh1 := Lib.hid (HSh.out hm)
    have HN1 := Lib.hid (HN.out hm)
    have HG1 := Lib.hid (HG.out hm)
    clear HM HH HSh HN HG hm
    by_cases hh : allO s j = true ∧ fN s j 0 = 0 ∧ fN s j 6 = 0
    · have hbd8 := fN_bd s j 8
      have hbd9 := fN_bd s j 9
      have HSh2 := Lib.hid (HSh1.out hh)
      have HN2 := Lib.hid (HN1.out hh)
      have HG2 := Lib.hid (HG1.out hh)
      have HD : Hid (∀ w, Calls Try.prog 44 #[.string (s.extract (j + 6) (j + 76))] w fun e w' => e = .returned (.agg (hdC s j 10)) ∧ Below w.heap.size w w') := Lib.hid (fun w => by
        have h9 := HHd.out w
        rw [hdE, if_pos hh] at h9
        exact h9)
      rw [hdC_ten] at HD
      have HSn := Lib.hid (fun (h : ¬ (s.size : Int) < j + 76 + fN s j 8 + fN s j 9) w => sl_at s ((j : Int) + 76) ((j : Int) + 76 + fN s j 8) (j + 76) (j + 76 + (fN s j 8).toNat) (by omega) (by omega) (by omega) (by omega) w)
      have HSd := Lib.hid (fun (h : ¬ (s.size : Int) < j + 76 + fN s j 8 + fN s j 9) w => sl_at s ((j : Int) + 76 + fN s j 8) ((j : Int) + 76 + fN s j 8 + fN s j 9) (j + 76 + (fN s j 8).toNat) (j + 76 + (fN s j 8).toNat + (fN s j 9).toNat) (by omega) (by omega) (by omega) (by omega) w)
      rw [show s.extract (j + 76) (j + 76 + (fN s j 8).toNat) = nameB s j from rfl] at HSn
      have hnz : (nameB s j).size ≤ s.size := by unfold nameB; rw [ByteArray.size_extract]; omega
      have hdz : (s.extract (j + 76 + (fN s j 8).toNat) (j + 76 + (fN s j 8).toNat + (fN s j 9).toNat)).size ≤ s.size := by rw [ByteArray.size_extract]; omega
      generalize s.extract (j + 76 + (fN s j 8).toNat) (j + 76 + (fN s j 8).toNat + (fN s j 9).toNat) = dat at HSd HG2 hdz
      have HCl := Lib.hid (fun w => clone_any dat w (by omega))
      have HCu := Lib.hid (fun w => cut_impl (nameB s j) w (by omega))
      have hcz := cutv_le (nameB s j)
      generalize cutv (nameB s j) = nm at HCu HN2 HG2 hcz
      generalize nameB s j = nb at HSn HCu hnz hcz
      clear HH1 HSh1 HN1 HG1 HHd hh
      generalize fN s j 0 = x0 at HD
      generalize fN s j 6 = x6 at HD
      generalize fN s j 1 = x1 at HD HG2
      generalize fN s j 2 = x2 at HD HG2
      generalize fN s j 3 = x3 at HD HG2
      generalize fN s j 4 = x4 at HD HG2
      generalize fN s j 5 = x5 at HD HG2
      generalize fN s j 7 = x7 at HD HG2
      generalize fN s j 8 = x8 at HD HG2 HSh2 HN2 HSn HSd hbd8
      generalize fN s j 9 = x9 at HD HG2 HSh2 HN2 HSn HSd hbd9
      generalize s.extract (j + 6) (j + 76) = dg at HD HP
      have HS := HS76.out
      go_enter Try.func26, Try.ntmps26
      go_wp2_with fail
      refine (demand_ok 1 _).mono ?_
      rintro e w8 ⟨rfl, rfl⟩
      go_wp2_with fail
      refine (HP.out _).mono ?_
      rintro e w9 ⟨rfl, rfl⟩
      go_wp2_with fail
      refine (demand_ok 4 _).mono ?_
      rintro e w8 ⟨rfl, rfl⟩
      generalize hwA : World.alloc w _ = wA
      have R1 : Hid (CardO wA w.heap.size zeroC) := Lib.hid (by rw [← hwA]; exact R.out)
      have B1 : Hid (Below w.heap.size w wA) := Lib.hid (by rw [← hwA]; exact B.out)
      have hlt := R1.out.lt
      clear hwA R B HS
      go_wp2_with fail
      refine (HD.out _).mono ?_
      rintro e wH ⟨rfl, hb⟩
      have R2 : Hid (CardO wH w.heap.size zeroC) := Lib.hid ((hb.block _ hlt).trans R1.out)
      have hbz := hb.size
      have B2 := Lib.hid (B1.out.trans (hb.mono B1.out.size))
      clear hb R1 B1 HD
      go_upto_region 5 with fail
      generalize hwB : World.alloc wH _ = wB
      have XB : Hid (wB.heap[wH.heap.size]? = some (.cells #[.int .i64 x1, .int .i64 x2, .int .i64 x3, .int .i64 x4, .int .i64 x5, .int .i64 x7, .string ⟨#[]⟩, .string ⟨#[]⟩, .int .i64 x0, .int .i64 x6, .int .i64 x8, .int .i64 x9] 66 (0, 0))) := Lib.hid (by rw [← hwB]; exact heap_lastG _ _)
      have NB : Below wH.heap.size wH wB := by rw [← hwB]; exact (Below.refl _ _).alloc (Nat.le_refl _) _
      clear hwB
      have R3 : Hid (CardO wB w.heap.size zeroC) := Lib.hid ((NB.block _ (by omega)).trans R2.out)
      have B3 := Lib.hid (B2.out.trans (NB.mono B2.out.size))
      have hwz := B2.out.size
      have hbz2 : w.heap.size < wH.heap.size := by omega
      clear NB R2 B2
      have c10 : wB.cell? ⟨wH.heap.size, 10, none⟩ = some (.int .i64 x8) := by simp [World.cell?, XB.out]
      have c11 : wB.cell? ⟨wH.heap.size, 11, none⟩ = some (.int .i64 x9) := by simp [World.cell?, XB.out]
      have a1 : IntKind.i64.wrap ((j : Int) + 76 + x8) = (j : Int) + 76 + x8 := by rw [IntKind.wrap_i64]; omega
      have a2 : IntKind.i64.wrap ((j : Int) + 76 + x8 + x9) = (j : Int) + 76 + x8 + x9 := by rw [IntKind.wrap_i64]; omega
      by_cases h9 : (s.size : Int) < j + 76 + x8 + x9
      · have HE := Lib.hid (HSh2.out h9)
        have h9' : ¬ (j : Int) + 76 + x8 + x9 ≤ (s.size : Int) := by omega
        clear HSh2 HN2 HG2 h9
        go_wp2_with fail
        refine (demand_no 1 _).mono ?_
        rintro e w8 ⟨rfl, rfl⟩
        exact ⟨rfl, by rw [HE.out], B3.out⟩
      · have HN3 := Lib.hid (HN2.out (by omega))
        have HG3 := Lib.hid (HG2.out (by omega))
        have S1 := HSn.out (by omega)
        have S2 := HSd.out (by omega)
        have h9' : (j : Int) + 76 + x8 + x9 ≤ (s.size : Int) := by omega
        clear HSh2 HN2 HG2 h9 HSn HSd
        go_wp2_with fail
        refine (demand_ok 1 _).mono ?_
        rintro e w8 ⟨rfl, rfl⟩
        go_wp2_with fail
        refine (HCu.out _).mono ?_
        rintro e w5 ⟨rfl, hb⟩
        have lt := (Array.getElem?_eq_some_iff.1 XB.out).1
        have X5 : Hid (w5.heap[wH.heap.size]? = some (.cells #[.int .i64 x1, .int .i64 x2, .int .i64 x3, .int .i64 x4, .int .i64 x5, .int .i64 x7, .string ⟨#[]⟩, .string ⟨#[]⟩, .int .i64 x0, .int .i64 x6, .int .i64 x8, .int .i64 x9] 66 (0, 0))) := Lib.hid ((hb.block _ lt).trans XB.out)
        have R5 : Hid (CardO w5 w.heap.size zeroC) := Lib.hid ((hb.block _ (by omega)).trans R3.out)
        have B5 := Lib.hid (B3.out.trans (hb.mono B3.out.size))
        clear hb lt XB R3 B3 c10 c11
        have c6 : w5.cell? ⟨wH.heap.size, 6, none⟩ = some (.string ⟨#[]⟩) := by simp [World.cell?, X5.out]
        have z6 : w5.frozen? ⟨wH.heap.size, 6, none⟩ = false := by simp [World.frozen?, X5.out]
        go_upto_region 9 with fail
        generalize hw6 : World.setCell w5 _ _ = w6
        have X6 : Hid (w6.heap[wH.heap.size]? = some (.cells #[.int .i64 x1, .int .i64 x2, .int .i64 x3, .int .i64 x4, .int .i64 x5, .int .i64 x7, .string nm, .string ⟨#[]⟩, .int .i64 x0, .int .i64 x6, .int .i64 x8, .int .i64 x9] 66 (0, 0))) := Lib.hid (by rw [← hw6]; exact heap_setK X5.out)
        have R6 : Hid (CardO w6 w.heap.size zeroC) := Lib.hid (by rw [← hw6]; exact R5.out.other (by omega))
        have B6 : Hid (Below w.heap.size w w6) := Lib.hid (by rw [← hw6]; exact B5.out.setCell (by simp; omega) _)
        clear hw6 c6 z6 X5 R5 B5
        have c6 : w6.cell? ⟨wH.heap.size, 6, none⟩ = some (.string nm) := by simp [World.cell?, X6.out]
        have c10 : w6.cell? ⟨wH.heap.size, 10, none⟩ = some (.int .i64 x8) := by simp [World.cell?, X6.out]
        have hr6 := R6.out.lt
        have hx6 := (Array.getElem?_eq_some_iff.1 X6.out).1
        by_cases hn : (nm.size : Int) + 1 = x8
        · have HE := Lib.hid (HG3.out hn)
          clear HN3 HG3
          go_wp2_with fail
          refine (demand_ok 4 _).mono ?_
          rintro e w7 ⟨rfl, rfl⟩
          go_wp2_with fail
          refine (HCl.out _).mono ?_
          rintro e w8 ⟨rfl, hb⟩
          have X8 : Hid (w8.heap[wH.heap.size]? = some (.cells #[.int .i64 x1, .int .i64 x2, .int .i64 x3, .int .i64 x4, .int .i64 x5, .int .i64 x7, .string nm, .string ⟨#[]⟩, .int .i64 x0, .int .i64 x6, .int .i64 x8, .int .i64 x9] 66 (0, 0))) := Lib.hid ((hb.block _ (by first | exact hx6 | omega)).trans X6.out)
          have R8 : Hid (CardO w8 w.heap.size zeroC) := Lib.hid ((hb.block _ (by first | exact hr6 | omega)).trans R6.out)
          have B8 := Lib.hid (B6.out.trans (hb.mono B6.out.size))
          clear hb X6 R6 B6 c6 c10
          have c7 : w8.cell? ⟨wH.heap.size, 7, none⟩ = some (.string ⟨#[]⟩) := by simp [World.cell?, X8.out]
          have z7 : w8.frozen? ⟨wH.heap.size, 7, none⟩ = false := by simp [World.frozen?, X8.out]
          go_upto_region 11 with fail
          generalize hw9 : World.setCell w8 _ _ = w9
          have X9 : Hid (w9.heap[wH.heap.size]? = some (.cells #[.int .i64 x1, .int .i64 x2, .int .i64 x3, .int .i64 x4, .int .i64 x5, .int .i64 x7, .string nm, .string dat, .int .i64 x0, .int .i64 x6, .int .i64 x8, .int .i64 x9] 66 (0, 0))) := Lib.hid (by rw [← hw9]; exact heap_setK X8.out)
          have R9 : Hid (CardO w9 w.heap.size zeroC) := Lib.hid (by rw [← hw9]; exact R8.out.other (by omega))
          have B9 : Hid (Below w.heap.size w w9) := Lib.hid (by rw [← hw9]; exact B8.out.setCell (by simp; omega) _)
          clear hw9 c7 z7 X8 R8 B8
          have s0 : w9.cell? ⟨wH.heap.size, 0, none⟩ = some (.int .i64 x1) := by simp [World.cell?, X9.out]
          have s1 : w9.cell? ⟨wH.heap.size, 1, none⟩ = some (.int .i64 x2) := by simp [World.cell?, X9.out]
          have s2 : w9.cell? ⟨wH.heap.size, 2, none⟩ = some (.int .i64 x3) := by simp [World.cell?, X9.out]
          have s3 : w9.cell? ⟨wH.heap.size, 3, none⟩ = some (.int .i64 x4) := by simp [World.cell?, X9.out]
          have s4 : w9.cell? ⟨wH.heap.size, 4, none⟩ = some (.int .i64 x5) := by simp [World.cell?, X9.out]
          have s5 : w9.cell? ⟨wH.heap.size, 5, none⟩ = some (.int .i64 x7) := by simp [World.cell?, X9.out]
          have s6 : w9.cell? ⟨wH.heap.size, 6, none⟩ = some (.string nm) := by simp [World.cell?, X9.out]
          have s7 : w9.cell? ⟨wH.heap.size, 7, none⟩ = some (.string dat) := by simp [World.cell?, X9.out]
          have hR := R9.out
          unfold CardO at hR
          have r0 : w9.cell? ⟨w.heap.size, 0, none⟩ = some (.int .i64 0) := by simp [World.cell?, hR, zeroC, Card.cells]
          have r1 : w9.cell? ⟨w.heap.size, 1, none⟩ = some (.int .i64 0) := by simp [World.cell?, hR, zeroC, Card.cells]
          have r2 : w9.cell? ⟨w.heap.size, 2, none⟩ = some (.int .i64 0) := by simp [World.cell?, hR, zeroC, Card.cells]
          have r3 : w9.cell? ⟨w.heap.size, 3, none⟩ = some (.int .i64 0) := by simp [World.cell?, hR, zeroC, Card.cells]
          have r4 : w9.cell? ⟨w.heap.size, 4, none⟩ = some (.int .i64 0) := by simp [World.cell?, hR, zeroC, Card.cells]
          have r5 : w9.cell? ⟨w.heap.size, 5, none⟩ = some (.int .i64 0) := by simp [World.cell?, hR, zeroC, Card.cells]
          have r6 : w9.cell? ⟨w.heap.size, 6, none⟩ = some (.string ⟨#[]⟩) := by simp [World.cell?, hR, zeroC, Card.cells]
          have r7 : w9.cell? ⟨w.heap.size, 7, none⟩ = some (.string ⟨#[]⟩) := by simp [World.cell?, hR, zeroC, Card.cells]
          have z0 := R9.out.fz 0
          have z1 := R9.out.fz 1
          have z2 := R9.out.fz 2
          have z3 := R9.out.fz 3
          have z4 := R9.out.fz 4
          have z5 := R9.out.fz 5
          have z6 := R9.out.fz 6
          have z7 := R9.out.fz 7
          have R10 := R9.out.put ⟨x1, x2, x3, x4, x5, x7, nm, dat⟩
          have B10 := below_putOC (g := w.heap.size) B9.out (Nat.le_refl _) ⟨x1, x2, x3, x4, x5, x7, nm, dat⟩
          simp only [putOC] at R10 B10
          have HR := Lib.hid R10
          have HB := Lib.hid B10
          clear R10 B10 hR
          go_wp2_with fail
          refine bodyPost_ret (res_OC2 rfl _ rfl HR.out) rfl ?_
          exact ⟨HE.out.symm, HB.out⟩
        · have HE := Lib.hid (HN3.out hn)
          have hnf : ((nm.size : Int) + 1 == x8) = false := by simpa using hn
          clear HN3 HG3
          go_wp2_with fail
          refine (demand_no 4 _).mono ?_
          rintro e w7 ⟨rfl, rfl⟩
          exact ⟨rfl, by rw [HE.out], B6.out⟩
    · have HE := Lib.hid (HH1.out hh)
      have HD : Hid (∀ w, Calls Try.prog 44 #[.string (s.extract (j + 6) (j + 76))] w fun e w' => e = .panicked (panC 3) ∧ Below w.heap.size w w') := Lib.hid (fun w => by
        have h9 := HHd.out w
        rw [hdE, if_neg hh] at h9
        exact h9)
      clear HH1 HSh1 HN1 HG1 HHd hh
      have HS := HS76.out
      go_enter Try.func26, Try.ntmps26
      go_wp2_with fail
      refine (demand_ok 1 _).mono ?_
      rintro e w8 ⟨rfl, rfl⟩
      go_wp2_with fail
      refine (HP.out _).mono ?_
      rintro e w9 ⟨rfl, rfl⟩
      go_wp2_with fail
      refine (demand_ok 4 _).mono ?_
      rintro e w8 ⟨rfl, rfl⟩
      go_wp2_with fail
      refine (HD.out _).mono ?_
      rintro e wH ⟨rfl, hb⟩
      exact ⟨rfl, by rw [HE.out], B.out.trans (hb.mono B.out.size)⟩
  · have HE := Lib.hid (HM.out hm)
    have hf : ((s.extract j (j + 6)).toList == magicB.toList) = false := by
      have h9 : ¬ (s.extract j (j + 6)).toList = magicB.toList := fun h => hm (ba_ext (by rw [← ByteArray.toList_eq, ← ByteArray.toList_eq]; exact h))
      simpa using h9
    rw [hf] at HP
    clear HM HH HSh HN HG hm hf HHd
    have HS := HS76.out
    go_enter Try.func26, Try.ntmps26
    go_wp2_with fail
    refine (demand_ok 1 _).mono ?_
    rintro e w8 ⟨rfl, rfl⟩
    go_wp2_with fail
    refine (HP.out _).mono ?_
    rintro e w9 ⟨rfl, rfl⟩
    go_wp2_with fail
    refine (demand_no 4 _).mono ?_
    rintro e w8 ⟨rfl, rfl⟩
    exact ⟨rfl, by rw [HE.out], B.out⟩
end Go.Proofs.Ytcnmbolmgifgfaa
