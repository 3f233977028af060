/- Contract of spec.GetCard. -/
import Derived.Test.YtcnmbolmgifgfaaGetCdM
import Derived.BigRegion
import Derived.BigQuiet
import Derived.Test.YtcnmbolmgifgfaaRegU
import Derived.Deep.DeepCutAuto
import Derived.OwnWalk
import Derived.Test.YtcnmbolmgifgfaaPartMath
import Derived.Laws.MakeOwn
namespace Go.Proofs.Ytcnmbolmgifgfaa
open Go.ChangeShapes Go.WideShapes Go.ChangeAt Go.RowKit Go.Deep

def cdV (s : ByteArray) (i : Int) : Value := .tuple #[.agg (cdCard s i).cells.toArray, .int .i64 (cdNext s i), .int .i64 (cdCode s i)]
def badV (i c : Int) : Value := .tuple #[.agg zeroC.cells.toArray, .int .i64 i, .int .i64 c]
theorem cdV_bad {s : ByteArray} {i c : Int} (h : badCd s i c) : cdV s i = badV i c := by rw [cdV, h.1, h.2.1, h.2.2]; rfl
theorem magic_tl : magicB.toList = [48, 55, 48, 55, 48, 55] := by rw [ba_toList]; rfl
theorem mg_eq {a : ByteArray} (h : a = magicB) : (a.toList == [48, 55, 48, 55, 48, 55]) = true := by rw [h, magic_tl]; rfl
theorem mg_ne {a : ByteArray} (h : ¬ a = magicB) : (a.toList == [48, 55, 48, 55, 48, 55]) = false := by
  rw [← magic_tl]
  simp only [beq_eq_false_iff_ne, ne_eq]
  intro e
  apply h
  rw [ba_toList, ba_toList] at e
  exact ba_ext e
theorem Try.infoN : (Try.prog.info? 3).map (fun i => (i.zero, i.size, i.bytes)) = some (some (.int .i64 0), 1, 8) := by kernel_rfl
def nlC (s : ByteArray) (j : Nat) : Nat → List Value
  | 0 => []
  | k + 1 => nlC s j k ++ [.int .i64 (fN s j k)]
theorem nlC_at (s : ByteArray) (j : Nat) : ∀ (n m : Nat), m < n → (nlC s j n)[m]? = some (.int .i64 (fN s j m)) := by
  intro n
  induction n with
  | zero => intro m h; omega
  | succ n ih =>
    intro m h
    have hl : (nlC s j n).length = n := by
      clear ih h m
      induction n with
      | zero => rfl
      | succ n ih => simp [nlC, ih]
    rw [nlC]
    by_cases e : m = n
    · subst e
      rw [List.getElem?_append_right (by omega), hl]
      simp
    · rw [List.getElem?_append_left (by omega)]
      exact ih m (by omega)
theorem cell_oneN (w : World) (v : Value) (t : TypeId) : ∀ j u, [v][j]? = some u → (w.alloc (.cells #[v] t)).cell? ((⟨w.heap.size, 0, none⟩ : Addr).add j) = some u := by
  intro j u hj
  match j, hj with
  | 0, hj => simp at hj; subst hj; simp [Addr.add]
  | j + 1, hj => simp at hj

set_option maxHeartbeats 6400000 in
set_option maxRecDepth 8000 in
theorem getCard_short (s : ByteArray) (i : Int) (w : World) (hs : s.size ≤ 1048576) (hi0 : -9223372036854775808 ≤ i) (hi1 : i ≤ 9223372036854775807) (hc : i < 0 ∨ (s.size : Int) < i + 76) :
    Calls Try.prog 8 #[.string s, .int .i64 i] w fun e w' => e = .returned (cdV s i) ∧ Below w.heap.size w w' := by
  have HF : Hid (cdV s i = badV i 1) := Lib.hid (cdV_bad (cd_cut hc))
  have R := Lib.hid (CardO.new w zeroC)
  have B : Hid (Below w.heap.size w (w.alloc (.cells zeroC.cells.toArray 23))) := Lib.hid ((Below.refl _ _).alloc (Nat.le_refl _) _)
  generalize cdV s i = r at HF
  by_cases h1 : i < 0
  · clear hc
    simp only [zeroC, Card.cells] at R B
    go_enter Try.func8, Try.ntmps8
    obtain ⟨d0, d1, d2, d3, d4, d5, d6, d7⟩ := (show CardO _ w.heap.size zeroC from R.out).at.zero
    simp only [zeroC] at d0 d1 d2 d3 d4 d5 d6 d7
    have f0 := (show CardO _ w.heap.size zeroC from R.out).fz 0
    have f1 := (show CardO _ w.heap.size zeroC from R.out).fz 1
    have f2 := (show CardO _ w.heap.size zeroC from R.out).fz 2
    have f3 := (show CardO _ w.heap.size zeroC from R.out).fz 3
    have f4 := (show CardO _ w.heap.size zeroC from R.out).fz 4
    have f5 := (show CardO _ w.heap.size zeroC from R.out).fz 5
    have f6 := (show CardO _ w.heap.size zeroC from R.out).fz 6
    have f7 := (show CardO _ w.heap.size zeroC from R.out).fz 7
    go_wp2_with fail
    refine bodyPost_ret (res_OC3 rfl _ rfl R.out) rfl ?_
    exact ⟨by rw [HF.out]; rfl, B.out⟩
  · have h2 : (s.size : Int) - 76 < i := by omega
    clear hc
    simp only [zeroC, Card.cells] at R B
    go_enter Try.func8, Try.ntmps8
    obtain ⟨d0, d1, d2, d3, d4, d5, d6, d7⟩ := (show CardO _ w.heap.size zeroC from R.out).at.zero
    simp only [zeroC] at d0 d1 d2 d3 d4 d5 d6 d7
    have f0 := (show CardO _ w.heap.size zeroC from R.out).fz 0
    have f1 := (show CardO _ w.heap.size zeroC from R.out).fz 1
    have f2 := (show CardO _ w.heap.size zeroC from R.out).fz 2
    have f3 := (show CardO _ w.heap.size zeroC from R.out).fz 3
    have f4 := (show CardO _ w.heap.size zeroC from R.out).fz 4
    have f5 := (show CardO _ w.heap.size zeroC from R.out).fz 5
    have f6 := (show CardO _ w.heap.size zeroC from R.out).fz 6
    have f7 := (show CardO _ w.heap.size zeroC from R.out).fz 7
    go_wp2_with fail
    refine bodyPost_ret (res_OC3 rfl _ rfl R.out) rfl ?_
    exact ⟨by rw [HF.out]; rfl, B.out⟩
set_option maxHeartbeats 6400000 in
set_option maxRecDepth 8000 in
theorem getCard_spec (s : ByteArray) (j : Nat) (w : World) (hs : s.size ≤ 1048576) (hj : j + 76 ≤ s.size) :
    Calls Try.prog 8 #[.string s, .int .i64 (j : Int)] w fun e w' => e = .returned (cdV s j) ∧ Below w.heap.size w w' := by
  obtain ⟨i0, hi0, hz0, hz1, hz2⟩ := info_parts Try.infoN
  have R := Lib.hid (CardO.new w zeroC)
  have B : Hid (Below w.heap.size w (w.alloc (.cells zeroC.cells.toArray 23))) := Lib.hid ((Below.refl _ _).alloc (Nat.le_refl _) _)
  have h2 : ¬ (s.size : Int) - 76 < (j : Int) := by omega
  have HS6 := Lib.hid (fun w => sl_at s (j : Int) ((j : Int) + 6) j (j + 6) rfl (by omega) (by omega) (by omega) w)
  by_cases hm : s.extract j (j + 6) = magicB
  · have q := mg_eq hm
    have HFld := Lib.hid (fun k hk h => cdV_bad (cd_field hj hm (k := k) hk h))
    have HZe := Lib.hid (fun ho h => cdV_bad (cd_zero hj hm ho h))
    have HSh := Lib.hid (fun ho hz h => cdV_bad (cd_short hj hm ho hz h))
    have HNm := Lib.hid (fun ho hz h hn => cdV_bad (cd_name hj hm ho hz h hn))
    have HGd := Lib.hid (fun ho hz h hn => cd_good hj hm ho hz h hn)
    have hS6 := HS6.out
    generalize s.extract j (j + 6) = mg at hS6 q
    clear hm HS6
    simp only [zeroC, Card.cells] at R B
    go_enter Try.func8, Try.ntmps8
    go_wp2_with fail
    clear q hS6
    refine (wide_spec _).mono ?_
    rintro e w1 ⟨G, rfl, hG1, hG2, hb⟩
    have NB := (Below.refl (w.alloc (.cells #[.int .i64 0, .int .i64 0, .int .i64 0, .int .i64 0, .int .i64 0, .int .i64 0, .string ⟨#[]⟩, .string ⟨#[]⟩] 23)).heap.size (w.alloc (.cells #[.int .i64 0, .int .i64 0, .int .i64 0, .int .i64 0, .int .i64 0, .int .i64 0, .string ⟨#[]⟩, .string ⟨#[]⟩] 23))).alloc (Nat.le_refl _) (.cells #[] 3)
    have O0 := World.ownsRow_lit (base := w.heap.size + 1) (e := 3) (size := 1) (w.alloc (.cells #[.int .i64 0, .int .i64 0, .int .i64 0, .int .i64 0, .int .i64 0, .int .i64 0, .string ⟨#[]⟩, .string ⟨#[]⟩] 23)) #[] 0 (by simp) (by simp) rfl
    have O1 : Hid (w1.ownsRow (w.heap.size + 1) 3 1 (.slice (some ⟨w.heap.size + 1, 0, none⟩) 0 0) 0 (nlC s j 0)) := Lib.hid (by
      have h := World.ownsRow.kept O0 (row := none) ⟨hb.os, hb.tape, hb.output, hb.size, fun k hk _ => hb.block k hk⟩ (.inr (by simp [Value.ownBlock]))
      rw [show (w.alloc (.cells #[.int .i64 0, .int .i64 0, .int .i64 0, .int .i64 0, .int .i64 0, .int .i64 0, .string ⟨#[]⟩, .string ⟨#[]⟩] 23)).heap.size = w.heap.size + 1 from by simp] at h
      exact h)
    have RW : Hid (CardO w1 w.heap.size zeroC) := Lib.hid (CardO.below (CardO.below (show CardO _ w.heap.size zeroC from R.out) NB (by simp)) hb (by simp; omega))
    have BW := Lib.hid (btC (btC B.out NB) hb)
    have hG3 : w.heap.size + 2 ≤ G := by simpa using hG1
    have WR := Lib.hid (RowN.of (l := wideC) hG2)
    have zG := (Array.getElem?_eq_some_iff.1 hG2).1
    clear hb hG1 hG2 NB O0 R B
    go_wp2_with fail
    go_loopw [7, 8, 10, 11, 12] (fun v ta u _ _ wr => ∃ k : Nat, u = .int .i64 k ∧ k ≤ 10 ∧ ta = .int .i64 ((j + 6 + cum k : Nat) : Int) ∧ (∀ m, m < k → fO s j m = true) ∧ wr.ownsRow (w.heap.size + 1) 3 1 v k (nlC s j k) ∧ (∃ gb cp, v = .slice (some ⟨gb, 0, none⟩) k cp ∧ gb ≠ G) ∧ RowN wr G wideC ∧ G < wr.heap.size ∧ CardO wr w.heap.size zeroC ∧ Below w.heap.size w wr) (fun _ _ u _ _ _ => 10 - (intOf u).toNat)
    case atStart => exact ⟨0, rfl, by omega, by rw [show cum 0 = 0 from rfl]; go_num, fun m hm => by omega, O1.out, ⟨_, _, rfl, by omega⟩, WR.out, zG, RW.out, BW.out⟩
    case round =>
      obtain ⟨k, rfl, hk, rfl, hok, ho, ⟨gb, cp, rfl, hgb⟩, hwr, zG2, hr, hb⟩ := hrel
      clear O1 RW BW WR zG
      have OK := Lib.hid hok
      have O := Lib.hid ho
      have WR := Lib.hid hwr
      have R := Lib.hid hr
      have B := Lib.hid hb
      have hszB := B.out.size
      clear hok ho hwr hr hb
      by_cases hlt : k < 10
      · have hlt2 : (k : Int) < 10 := by omega
        obtain ⟨hc1, hc2, hc3, hc4⟩ := cum_wid k hlt
        have cW := WR.out k _ hc4
        have HFk := Lib.hid (HFld.out k hlt)
        have HOn : Hid (fO s j k = true → ∀ m, m < k + 1 → fO s j m = true) := Lib.hid (fun h m hm => by
          by_cases e : m = k
          · subst e; exact h
          · exact OK.out m (by omega))
        have HGo := Lib.hid (fun w => getOct_spec (fB s j k) w (by unfold fB; rw [ByteArray.size_extract]; omega))
        have HNl : Hid (nlC s j (k + 1) = nlC s j k ++ [.int .i64 (fN s j k)]) := Lib.hid rfl
        rw [show (getOctv (fB s j k).data.toList).1 = fN s j k from rfl, show (getOctv (fB s j k).data.toList).2 = fO s j k from rfl] at HGo
        have HSl := Lib.hid (fun w => sl_at s ((j + 6 + cum k : Nat) : Int) (((j + 6 + cum k : Nat) : Int) + ((wid k : Nat) : Int)) (j + 6 + cum k) (j + 6 + cum k + wid k) rfl (by omega) (by omega) (by omega) w)
        rw [show s.extract (j + 6 + cum k) (j + 6 + cum k + wid k) = fB s j k from rfl] at HSl
        have hS := HSl.out
        have hcn : j + 6 + cum (k + 1) = j + 6 + cum k + wid k := by omega
        have HCn := Lib.hid hcn
        have hp9 : j + 6 + cum k + wid k ≤ s.size := by omega
        generalize fB s j k = fb at hS HGo
        generalize fO s j k = okk at HFk HOn HGo
        generalize fN s j k = x at HNl HGo
        obtain ⟨pp, hpp⟩ : ∃ q, j + 6 + cum k = q := ⟨_, rfl⟩
        rw [hpp] at hS hp9 HCn ⊢
        generalize wid k = wk at cW hS hp9 HCn hc1 hc3 hc4
        have HC4 := Lib.hid hc4
        clear HSl hc4 hcn hpp hc1 hc2
        go_wp2_with fail
        refine (HGo.out _).mono ?_
        rintro e w3 ⟨rfl, rfl⟩
        cases okk with
        | false =>
          have HF := Lib.hid (HFk.out rfl)
          clear HFk HOn HGo hS cW

          obtain ⟨d0, d1, d2, d3, d4, d5, d6, d7⟩ := (R.out).at.zero
          simp only [zeroC] at d0 d1 d2 d3 d4 d5 d6 d7
          have f0 := (R.out).fz 0
          have f1 := (R.out).fz 1
          have f2 := (R.out).fz 2
          have f3 := (R.out).fz 3
          have f4 := (R.out).fz 4
          have f5 := (R.out).fz 5
          have f6 := (R.out).fz 6
          have f7 := (R.out).fz 7
          have R9 := (R.out).put zeroC
          have B9 := below_putOC (g := w.heap.size) (B.out) (Nat.le_refl _) zeroC
          simp only [putOC, zeroC] at R9 B9
          go_wp2_with fail
          refine bodyPost_ret (res_OC3 rfl _ rfl R9) rfl ?_
          exact ⟨by rw [HF.out]; rfl, B9⟩
        | true =>
          have HOm := Lib.hid (HOn.out rfl)
          clear HFk HOn HGo hS
          go_wp2_with (at_builtin; refine wpList_append_own_at _ rfl _ _ 37 rfl (w.heap.size + 1) 3 i0 (.int .i64 0) 1 8 Try.underlying37 hi0 hz0 hz1 hz2 rfl (by decide) _ _ _ rfl (World.ownsRow.alloc O.out _) ⟨wr.heap.size, 0, none⟩ 1 1 [.int .i64 x] rfl rfl ?c1 ?c2 ?c3 ?c4 ?c5 ?_)
          case c1 => intro jj uu hu; exact cell_oneN _ _ _ jj uu hu
          case c2 => intro u hu; simp at hu; subst hu; rfl
          case c3 => simp only [maxLen]; omega
          case c4 => omega
          case c5 => simp; omega
          intro v4 w4 hown4 hgrow4 _ hob4
          have NA := (Below.refl wr.heap.size wr).alloc (Nat.le_refl _) (.cells #[.int .i64 x] 3)
          have hbk : ∀ b, (Value.slice (some ⟨gb, 0, none⟩) k cp).ownBlock = some b → w.heap.size + 1 ≤ b := fun b hb => (World.ownsRow.lt O.out b hb).1
          have O4 : Hid (w4.ownsRow (w.heap.size + 1) 3 1 v4 (k + 1) (nlC s j (k + 1))) := Lib.hid (by rw [HNl.out]; exact hown4)
          have V4 : Hid (∃ gb cp, v4 = .slice (some ⟨gb, 0, none⟩) (k + 1) cp ∧ gb ≠ G) := Lib.hid (by
            rcases hown4.2 with ⟨_, hn⟩ | ⟨g', cap', cur, rfl, _⟩
            · omega
            · refine ⟨g', cap', rfl, ?_⟩
              rcases hob4 with h | h
              · simp only [Value.ownBlock, Option.some.injEq] at h; omega
              · simp only [Value.ownBlock, Option.some.injEq] at h; first | omega | (simp at h; omega))
          have W4 : Hid (RowN w4 G wideC) := Lib.hid (fun i x hx => by
            have h1 := (NA.cell (p := ⟨G, i, none⟩) zG2).trans (WR.out i x hx)
            exact (World.cell?_of_block (hgrow4.block G (by simp; omega) (by simp [Value.ownBlock]; omega))).trans h1)
          have R4 := Lib.hid ((R.out.below NA R.out.lt).grown hgrow4 (by simp [Value.ownBlock]; have := hbk gb rfl; omega))
          have B4 : Hid (Below w.heap.size w w4) := Lib.hid ((btC B.out NA).grown hgrow4 (by simp; omega) (fun b hb => by have := hbk b hb; omega))
          have zG4 : G < w4.heap.size := Nat.lt_of_lt_of_le zG2 (Nat.le_trans NA.size hgrow4.size)
          clear hown4 hgrow4 hob4 O R B WR NA hbk
          have cW4 := W4.out k _ HC4.out
          clear cW
          go_wp2_with fail
          go_roundw
          case rel => exact ⟨k + 1, by go_num, by omega, by rw [HCn.out]; go_num, HOm.out, O4.out, V4.out, W4.out, zG4, R4.out, B4.out⟩
          case measure => simp [intOf]; omega
      · obtain rfl : k = 10 := by omega
        have hlt2 : ¬ ((10 : Nat) : Int) < 10 := by omega
        have e76 : j + 6 + cum 10 = j + 76 := by have h : cum 10 = 70 := rfl; omega
        rw [e76]
        have HOk : Hid (∀ m, m < 10 → fO s j m = true) := Lib.hid OK.out
        have HN : Hid (∀ m, m < 10 → wr.cell? ⟨gb, m, none⟩ = some (.int .i64 (fN s j m))) := Lib.hid (fun m hm => by
          have h := World.ownsRow.cells O.out (g := gb) rfl m _ (nlC_at s j 10 m hm)
          rwa [show (⟨gb, 0, none⟩ : Addr).add m = ⟨gb, m, none⟩ from by unfold Addr.add; split <;> simp_all] at h)
        have hGb : w.heap.size + 1 ≤ gb := (World.ownsRow.lt O.out gb rfl).1
        have HZ := Lib.hid (HZe.out HOk.out)
        have HS := Lib.hid (HSh.out HOk.out)
        have HM := Lib.hid (HNm.out HOk.out)
        have HG : Hid (fN s j 0 = 0 ∧ fN s j 6 = 0 → _) := Lib.hid (HGd.out HOk.out)
        obtain ⟨N8, hN8⟩ := Int.eq_ofNat_of_zero_le (fN_bd s j 8).1
        obtain ⟨N9, hN9⟩ := Int.eq_ofNat_of_zero_le (fN_bd s j 9).1
        have hb8 := (fN_bd s j 8).2
        have hb9 := (fN_bd s j 9).2
        rw [hN8] at hb8 HS HM HG
        rw [hN9] at hb9 HS HM HG
        have HNE : Hid (s.extract (j + 76) (j + 76 + N8) = nameB s j) := Lib.hid (by unfold nameB; rw [hN8, Int.toNat_natCast])
        have n0 := HN.out 0 (by omega)
        have n1 := HN.out 1 (by omega)
        have n2 := HN.out 2 (by omega)
        have n3 := HN.out 3 (by omega)
        have n4 := HN.out 4 (by omega)
        have n5 := HN.out 5 (by omega)
        have n6 := HN.out 6 (by omega)
        have n7 := HN.out 7 (by omega)
        have n8 := HN.out 8 (by omega)
        have n9 := HN.out 9 (by omega)
        rw [hN8] at n8
        rw [hN9] at n9
        clear HFld HZe HSh HNm HGd HN OK WR O HOk hN8 hN9
        generalize nameB s j = nm at HM HG HNE
        generalize fN s j 0 = x0 at n0 HZ HS HM HG
        generalize fN s j 6 = x6 at n6 HZ HS HM HG
        generalize fN s j 1 = x1 at n1 HG
        generalize fN s j 2 = x2 at n2 HG
        generalize fN s j 3 = x3 at n3 HG
        generalize fN s j 4 = x4 at n4 HG
        generalize fN s j 5 = x5 at n5 HG
        generalize fN s j 7 = x7 at n7 HG
        by_cases hz0 : x0 = 0
        · by_cases hz6 : x6 = 0
          · have q0 : (x0 != 0) = false := by simpa using hz0
            have q6 : (x6 != 0) = false := by simpa using hz6
            have HS2 := Lib.hid (HS.out ⟨hz0, hz6⟩)
            have HM2 := Lib.hid (HM.out ⟨hz0, hz6⟩)
            have HG2 := Lib.hid (HG.out ⟨hz0, hz6⟩)
            clear HS HM HG HZ
            obtain ⟨p, hp⟩ : ∃ p, j + 76 = p := ⟨_, rfl⟩
            rw [hp] at HNE ⊢
            by_cases c8 : (s.size : Int) - (p : Int) < (N8 : Int)
            · have HF : Hid (cdV s j = badV j 1) := Lib.hid (HS2.out (by omega))
              clear HS2 HM2 HG2 HNE
              go_upto_region 18 with fail
              go_quiet (fail)
              obtain ⟨wq, hwq⟩ : ∃ y, y = wr.drewN nq := ⟨_, rfl⟩
              replace R : Hid (CardO wq w.heap.size zeroC) := Lib.hid (by rw [hwq]; exact R.out)
              replace B : Hid (Below w.heap.size w wq) := Lib.hid (by rw [hwq]; exact ⟨B.out.os, B.out.tape, B.out.output, B.out.size, B.out.block⟩)
              rw [← hwq]
              clear hwq n0 n1 n2 n3 n4 n5 n6 n7 n8 n9
              obtain ⟨d0, d1, d2, d3, d4, d5, d6, d7⟩ := (R.out).at.zero
              simp only [zeroC] at d0 d1 d2 d3 d4 d5 d6 d7
              have f0 := (R.out).fz 0
              have f1 := (R.out).fz 1
              have f2 := (R.out).fz 2
              have f3 := (R.out).fz 3
              have f4 := (R.out).fz 4
              have f5 := (R.out).fz 5
              have f6 := (R.out).fz 6
              have f7 := (R.out).fz 7
              have R9 := (R.out).put zeroC
              have B9 := below_putOC (g := w.heap.size) (B.out) (Nat.le_refl _) zeroC
              simp only [putOC, zeroC] at R9 B9
              go_wp2_with fail
              refine bodyPost_ret (res_OC3 rfl _ rfl R9) rfl ?_
              exact ⟨by rw [HF.out]; rfl, B9⟩
            by_cases c9 : (s.size : Int) - (p : Int) - (N8 : Int) < (N9 : Int)
            · have HF : Hid (cdV s j = badV j 1) := Lib.hid (HS2.out (by omega))
              clear HS2 HM2 HG2 HNE
              go_upto_region 18 with fail
              go_quiet (fail)
              obtain ⟨wq, hwq⟩ : ∃ y, y = wr.drewN nq := ⟨_, rfl⟩
              replace R : Hid (CardO wq w.heap.size zeroC) := Lib.hid (by rw [hwq]; exact R.out)
              replace B : Hid (Below w.heap.size w wq) := Lib.hid (by rw [hwq]; exact ⟨B.out.os, B.out.tape, B.out.output, B.out.size, B.out.block⟩)
              rw [← hwq]
              clear hwq n0 n1 n2 n3 n4 n5 n6 n7 n8 n9
              obtain ⟨d0, d1, d2, d3, d4, d5, d6, d7⟩ := (R.out).at.zero
              simp only [zeroC] at d0 d1 d2 d3 d4 d5 d6 d7
              have f0 := (R.out).fz 0
              have f1 := (R.out).fz 1
              have f2 := (R.out).fz 2
              have f3 := (R.out).fz 3
              have f4 := (R.out).fz 4
              have f5 := (R.out).fz 5
              have f6 := (R.out).fz 6
              have f7 := (R.out).fz 7
              have R9 := (R.out).put zeroC
              have B9 := below_putOC (g := w.heap.size) (B.out) (Nat.le_refl _) zeroC
              simp only [putOC, zeroC] at R9 B9
              go_wp2_with fail
              refine bodyPost_ret (res_OC3 rfl _ rfl R9) rfl ?_
              exact ⟨by rw [HF.out]; rfl, B9⟩
            have HM3 := Lib.hid (HM2.out (by omega))
            have HG3 := Lib.hid (HG2.out (by omega))
            clear HS2 HM2 HG2
            have hpz : p + N8 + N9 ≤ s.size := by omega
            have hSn : ∀ w, _ := fun w => sl_at s (p : Int) ((p : Int) + (N8 : Int)) p (p + N8) rfl (by omega) (by omega) (by omega) w
            rw [HNE.out] at hSn
            have hnz : nm.size = N8 := by rw [← HNE.out, ByteArray.size_extract]; omega
            have HCut := Lib.hid (fun w => cut_spec nm w (by omega))
            have hcl := cutv_le nm
            go_upto_region 18 with fail
            go_quiet (fail)
            obtain ⟨wq, hwq⟩ : ∃ y, y = wr.drewN nq := ⟨_, rfl⟩
            replace R : Hid (CardO wq w.heap.size zeroC) := Lib.hid (by rw [hwq]; exact R.out)
            replace B : Hid (Below w.heap.size w wq) := Lib.hid (by rw [hwq]; exact ⟨B.out.os, B.out.tape, B.out.output, B.out.size, B.out.block⟩)
            replace n0 := (show wq.cell? ⟨gb, 0, none⟩ = some (.int .i64 x0) from by rw [hwq]; exact n0)
            replace n1 := (show wq.cell? ⟨gb, 1, none⟩ = some (.int .i64 x1) from by rw [hwq]; exact n1)
            replace n2 := (show wq.cell? ⟨gb, 2, none⟩ = some (.int .i64 x2) from by rw [hwq]; exact n2)
            replace n3 := (show wq.cell? ⟨gb, 3, none⟩ = some (.int .i64 x3) from by rw [hwq]; exact n3)
            replace n4 := (show wq.cell? ⟨gb, 4, none⟩ = some (.int .i64 x4) from by rw [hwq]; exact n4)
            replace n5 := (show wq.cell? ⟨gb, 5, none⟩ = some (.int .i64 x5) from by rw [hwq]; exact n5)
            replace n6 := (show wq.cell? ⟨gb, 6, none⟩ = some (.int .i64 x6) from by rw [hwq]; exact n6)
            replace n7 := (show wq.cell? ⟨gb, 7, none⟩ = some (.int .i64 x7) from by rw [hwq]; exact n7)
            replace n8 := (show wq.cell? ⟨gb, 8, none⟩ = some (.int .i64 (N8 : Int)) from by rw [hwq]; exact n8)
            replace n9 := (show wq.cell? ⟨gb, 9, none⟩ = some (.int .i64 (N9 : Int)) from by rw [hwq]; exact n9)
            rw [← hwq]
            clear hwq
            go_upto_region 21 with fail
            clear hSn
            by_cases hq8 : N8 = 0
            · have q8 : ((N8 : Int) == 0) = true := by simp [hq8]
              have HF : Hid (cdV s j = badV j 4) := Lib.hid (HM3.out (.inl (by omega)))
              clear HM3 HG3 HNE
              go_quiet (fail)
              obtain ⟨wz, hwq⟩ : ∃ y, y = wq.drewN nq := ⟨_, rfl⟩
              replace R : Hid (CardO wz w.heap.size zeroC) := Lib.hid (by rw [hwq]; exact R.out)
              replace B : Hid (Below w.heap.size w wz) := Lib.hid (by rw [hwq]; exact ⟨B.out.os, B.out.tape, B.out.output, B.out.size, B.out.block⟩)
              rw [← hwq]
              clear hwq n0 n1 n2 n3 n4 n5 n6 n7 n8 n9
              obtain ⟨d0, d1, d2, d3, d4, d5, d6, d7⟩ := (R.out).at.zero
              simp only [zeroC] at d0 d1 d2 d3 d4 d5 d6 d7
              have f0 := (R.out).fz 0
              have f1 := (R.out).fz 1
              have f2 := (R.out).fz 2
              have f3 := (R.out).fz 3
              have f4 := (R.out).fz 4
              have f5 := (R.out).fz 5
              have f6 := (R.out).fz 6
              have f7 := (R.out).fz 7
              have R9 := (R.out).put zeroC
              have B9 := below_putOC (g := w.heap.size) (B.out) (Nat.le_refl _) zeroC
              simp only [putOC, zeroC] at R9 B9
              go_wp2_with fail
              refine bodyPost_ret (res_OC3 rfl _ rfl R9) rfl ?_
              exact ⟨by rw [HF.out]; rfl, B9⟩
            have q8 : ((N8 : Int) == 0) = false := by simp [hq8]
            by_cases hqn : ((cutv nm).size : Int) = (N8 : Int) - 1
            · have qn : (((cutv nm).size : Int) != (N8 : Int) - 1) = false := by simp [hqn]
              have HF := Lib.hid (HG3.out (by simp; omega))
              have hcz : ((N8 : Int) - 1).toNat = (cutv nm).size := by omega
              have HSc := Lib.hid (fun w => cut_to nm ((N8 : Int) - 1) hcz (by omega) (by omega) w)
              have HSd := Lib.hid (fun w => sl_at s ((p : Int) + (N8 : Int)) ((p : Int) + (N8 : Int) + (N9 : Int)) (p + N8) (p + N8 + N9) rfl (by omega) (by omega) hpz w)
              have HFv : Hid (cdV s j = .tuple #[.agg #[.int .i64 x1, .int .i64 x2, .int .i64 x3, .int .i64 x4, .int .i64 x5, .int .i64 x7, .string (cutv nm), .string (s.extract (p + N8) (p + N8 + N9))], .int .i64 ((p : Int) + (N8 : Int) + (N9 : Int)), .int .i64 0]) := Lib.hid (by
                rw [cdV, HF.out.1, HF.out.2.1, HF.out.2.2, ← hp]
                simp [Card.cells])
              clear HF HM3 HG3 HNE hqn
              go_quiet ((go_at_call 23; refine Calls.quiet_of_same ((HCut.out _).mono (fun e w' h => ⟨h.1, h.2.symm⟩))))
              obtain ⟨wx, hwq⟩ : ∃ y, y = wq.drewN nq := ⟨_, rfl⟩
              replace R : Hid (CardO wx w.heap.size zeroC) := Lib.hid (by rw [hwq]; exact R.out)
              replace B : Hid (Below w.heap.size w wx) := Lib.hid (by rw [hwq]; exact ⟨B.out.os, B.out.tape, B.out.output, B.out.size, B.out.block⟩)
              replace n0 := (show wx.cell? ⟨gb, 0, none⟩ = some (.int .i64 x0) from by rw [hwq]; exact n0)
              replace n1 := (show wx.cell? ⟨gb, 1, none⟩ = some (.int .i64 x1) from by rw [hwq]; exact n1)
              replace n2 := (show wx.cell? ⟨gb, 2, none⟩ = some (.int .i64 x2) from by rw [hwq]; exact n2)
              replace n3 := (show wx.cell? ⟨gb, 3, none⟩ = some (.int .i64 x3) from by rw [hwq]; exact n3)
              replace n4 := (show wx.cell? ⟨gb, 4, none⟩ = some (.int .i64 x4) from by rw [hwq]; exact n4)
              replace n5 := (show wx.cell? ⟨gb, 5, none⟩ = some (.int .i64 x5) from by rw [hwq]; exact n5)
              replace n6 := (show wx.cell? ⟨gb, 6, none⟩ = some (.int .i64 x6) from by rw [hwq]; exact n6)
              replace n7 := (show wx.cell? ⟨gb, 7, none⟩ = some (.int .i64 x7) from by rw [hwq]; exact n7)
              replace n8 := (show wx.cell? ⟨gb, 8, none⟩ = some (.int .i64 (N8 : Int)) from by rw [hwq]; exact n8)
              replace n9 := (show wx.cell? ⟨gb, 9, none⟩ = some (.int .i64 (N9 : Int)) from by rw [hwq]; exact n9)
              rw [← hwq]
              clear hwq
              clear HCut qn q8
              go_upto_region 23 with fail
              go_quiet (fail)
              obtain ⟨wy, hwq⟩ : ∃ y, y = wx.drewN nq := ⟨_, rfl⟩
              replace R : Hid (CardO wy w.heap.size zeroC) := Lib.hid (by rw [hwq]; exact R.out)
              replace B : Hid (Below w.heap.size w wy) := Lib.hid (by rw [hwq]; exact ⟨B.out.os, B.out.tape, B.out.output, B.out.size, B.out.block⟩)
              replace n0 := (show wy.cell? ⟨gb, 0, none⟩ = some (.int .i64 x0) from by rw [hwq]; exact n0)
              replace n1 := (show wy.cell? ⟨gb, 1, none⟩ = some (.int .i64 x1) from by rw [hwq]; exact n1)
              replace n2 := (show wy.cell? ⟨gb, 2, none⟩ = some (.int .i64 x2) from by rw [hwq]; exact n2)
              replace n3 := (show wy.cell? ⟨gb, 3, none⟩ = some (.int .i64 x3) from by rw [hwq]; exact n3)
              replace n4 := (show wy.cell? ⟨gb, 4, none⟩ = some (.int .i64 x4) from by rw [hwq]; exact n4)
              replace n5 := (show wy.cell? ⟨gb, 5, none⟩ = some (.int .i64 x5) from by rw [hwq]; exact n5)
              replace n6 := (show wy.cell? ⟨gb, 6, none⟩ = some (.int .i64 x6) from by rw [hwq]; exact n6)
              replace n7 := (show wy.cell? ⟨gb, 7, none⟩ = some (.int .i64 x7) from by rw [hwq]; exact n7)
              replace n8 := (show wy.cell? ⟨gb, 8, none⟩ = some (.int .i64 (N8 : Int)) from by rw [hwq]; exact n8)
              replace n9 := (show wy.cell? ⟨gb, 9, none⟩ = some (.int .i64 (N9 : Int)) from by rw [hwq]; exact n9)
              rw [← hwq]
              clear hwq
              generalize cutv nm = ct at HSc HFv
              generalize s.extract (p + N8) (p + N8 + N9) = dd at HSd HFv
              have KC : Hid (∀ w' : World, (w'.cell? ⟨gb, 1, none⟩ = some (.int .i64 x1) ∧ w'.cell? ⟨gb, 2, none⟩ = some (.int .i64 x2) ∧ w'.cell? ⟨gb, 3, none⟩ = some (.int .i64 x3) ∧ w'.cell? ⟨gb, 4, none⟩ = some (.int .i64 x4) ∧ w'.cell? ⟨gb, 5, none⟩ = some (.int .i64 x5) ∧ w'.cell? ⟨gb, 7, none⟩ = some (.int .i64 x7) ∧ w'.cell? ⟨gb, 8, none⟩ = some (.int .i64 (N8 : Int))) → (w'.cell? ⟨gb, 1, none⟩ = some (.int .i64 x1) ∧ w'.cell? ⟨gb, 2, none⟩ = some (.int .i64 x2) ∧ w'.cell? ⟨gb, 3, none⟩ = some (.int .i64 x3) ∧ w'.cell? ⟨gb, 4, none⟩ = some (.int .i64 x4) ∧ w'.cell? ⟨gb, 5, none⟩ = some (.int .i64 x5) ∧ w'.cell? ⟨gb, 7, none⟩ = some (.int .i64 x7) ∧ w'.cell? ⟨gb, 8, none⟩ = some (.int .i64 (N8 : Int)))) := Lib.hid (fun w' h => h)
              go_upto_region 24 with fail
              refine wp_region_u (by kernel_rfl) (fun w' => Below w.heap.size w w' ∧ (w'.cell? ⟨gb, 1, none⟩ = some (.int .i64 x1) ∧ w'.cell? ⟨gb, 2, none⟩ = some (.int .i64 x2) ∧ w'.cell? ⟨gb, 3, none⟩ = some (.int .i64 x3) ∧ w'.cell? ⟨gb, 4, none⟩ = some (.int .i64 x4) ∧ w'.cell? ⟨gb, 5, none⟩ = some (.int .i64 x5) ∧ w'.cell? ⟨gb, 7, none⟩ = some (.int .i64 x7) ∧ w'.cell? ⟨gb, 8, none⟩ = some (.int .i64 (N8 : Int))) ∧ (w'.heap[w.heap.size]? = some (.cells zeroC.cells.toArray 23 (0, 0)) ∨ w'.heap[w.heap.size]? = some (.cells #[.int .i64 x1, .int .i64 x2, .int .i64 x3, .int .i64 x4, .int .i64 x5, .int .i64 x7, .string ct, .string dd] 23 (0, 0)))) (fun x y => y.heap[w.heap.size]? = x.heap[w.heap.size]? ∨ y.heap[w.heap.size]? = some (.cells #[.int .i64 x1, .int .i64 x2, .int .i64 x3, .int .i64 x4, .int .i64 x5, .int .i64 x7, .string ct, .string dd] 23 (0, 0))) (fun dq vq _ => match dq with | 140 => vq = .slice (some ⟨gb, 0, none⟩) 10 cp | 141 => vq = .pointer (some ⟨gb, 1, none⟩) | 142 => vq = .int .i64 x1 | 143 => vq = .slice (some ⟨gb, 0, none⟩) 10 cp | 144 => vq = .pointer (some ⟨gb, 2, none⟩) | 145 => vq = .int .i64 x2 | 146 => vq = .slice (some ⟨gb, 0, none⟩) 10 cp | 147 => vq = .pointer (some ⟨gb, 3, none⟩) | 148 => vq = .int .i64 x3 | 149 => vq = .slice (some ⟨gb, 0, none⟩) 10 cp | 150 => vq = .pointer (some ⟨gb, 4, none⟩) | 151 => vq = .int .i64 x4 | 152 => vq = .slice (some ⟨gb, 0, none⟩) 10 cp | 153 => vq = .pointer (some ⟨gb, 5, none⟩) | 154 => vq = .int .i64 x5 | 155 => vq = .slice (some ⟨gb, 0, none⟩) 10 cp | 156 => vq = .pointer (some ⟨gb, 7, none⟩) | 157 => vq = .int .i64 x7 | 158 => vq = .string nm | 159 => vq = .slice (some ⟨gb, 0, none⟩) 10 cp | 160 => vq = .pointer (some ⟨gb, 8, none⟩) | 161 => vq = .int .i64 (N8 : Int) | 162 => vq = .int .i64 ((N8 : Int) - 1) | 163 => vq = .string ct | 164 => vq = .string s | 165 => vq = .int .i64 (p : Int) | 166 => vq = .slice (some ⟨gb, 0, none⟩) 10 cp | 167 => vq = .pointer (some ⟨gb, 8, none⟩) | 168 => vq = .int .i64 (N8 : Int) | 169 => vq = .int .i64 ((p : Int) + (N8 : Int)) | 170 => vq = .int .i64 ((p : Int) + (N8 : Int) + (N9 : Int)) | 171 => vq = .string dd | 172 => vq = .agg #[.int .i64 x1, .int .i64 x2, .int .i64 x3, .int .i64 x4, .int .i64 x5, .int .i64 x7, .string ct, .string dd] | 173 => vq = .int .i64 ((p : Int) + (N8 : Int) + (N9 : Int)) | 5 => vq = .int .i64 ((p : Int) + (N8 : Int) + (N9 : Int)) | 6 => vq = .int .i64 0 | _ => True) (fun o w' => o.dst = none → w'.heap[w.heap.size]? = some (.cells #[.int .i64 x1, .int .i64 x2, .int .i64 x3, .int .i64 x4, .int .i64 x5, .int .i64 x7, .string ct, .string dd] 23 (0, 0))) (by kernel_rfl) ⟨B.out.drew, ⟨n1, n2, n3, n4, n5, n7, n8⟩, .inl R.out⟩ (fun _ _ _ _ _ _ h => h) (fun _ _ _ _ hs hu hd => Or.elim hs (fun h => h.trans (hu hd)) (fun h => h)) ?hops ?hend
              case hops =>
                simp only [List.forall_mem_cons]
                refine ⟨?o140, ?o141, ?o142, ?o143, ?o144, ?o145, ?o146, ?o147, ?o148, ?o149, ?o150, ?o151, ?o152, ?o153, ?o154, ?o155, ?o156, ?o157, ?o158, ?o159, ?o160, ?o161, ?o162, ?o163, ?o164, ?o165, ?o166, ?o167, ?o168, ?o169, ?o170, ?o171, ?o172, ?o173, ?os34, ?o5, ?o6, fun _ h => by cases h⟩
                case o140 =>
                  intro Q a w2 hC hV hI
                  have e7 : a.eval (.tmp 7) = .slice (some ⟨gb, 0, none⟩) 10 cp := (hI 7 (by simp [Op.operands]) (by kernel_rfl)).trans rfl
                  have f7 : a.tmps.getD 7 undef = .slice (some ⟨gb, 0, none⟩) 10 cp := e7
                  have g7 : a.tmps[7]?.getD undef = .slice (some ⟨gb, 0, none⟩) 10 cp := by rw [← Array.getD_eq_getD_getElem?]; exact e7
                  refine opU_val (C := fun w' => Below w.heap.size w w' ∧ (w'.cell? ⟨gb, 1, none⟩ = some (.int .i64 x1) ∧ w'.cell? ⟨gb, 2, none⟩ = some (.int .i64 x2) ∧ w'.cell? ⟨gb, 3, none⟩ = some (.int .i64 x3) ∧ w'.cell? ⟨gb, 4, none⟩ = some (.int .i64 x4) ∧ w'.cell? ⟨gb, 5, none⟩ = some (.int .i64 x5) ∧ w'.cell? ⟨gb, 7, none⟩ = some (.int .i64 x7) ∧ w'.cell? ⟨gb, 8, none⟩ = some (.int .i64 (N8 : Int))) ∧ (w'.heap[w.heap.size]? = some (.cells zeroC.cells.toArray 23 (0, 0)) ∨ w'.heap[w.heap.size]? = some (.cells #[.int .i64 x1, .int .i64 x2, .int .i64 x3, .int .i64 x4, .int .i64 x5, .int .i64 x7, .string ct, .string dd] 23 (0, 0)))) (St := fun x y => y.heap[w.heap.size]? = x.heap[w.heap.size]? ∨ y.heap[w.heap.size]? = some (.cells #[.int .i64 x1, .int .i64 x2, .int .i64 x3, .int .i64 x4, .int .i64 x5, .int .i64 x7, .string ct, .string dd] 23 (0, 0))) (V := fun dq vq _ => match dq with | 140 => vq = .slice (some ⟨gb, 0, none⟩) 10 cp | 141 => vq = .pointer (some ⟨gb, 1, none⟩) | 142 => vq = .int .i64 x1 | 143 => vq = .slice (some ⟨gb, 0, none⟩) 10 cp | 144 => vq = .pointer (some ⟨gb, 2, none⟩) | 145 => vq = .int .i64 x2 | 146 => vq = .slice (some ⟨gb, 0, none⟩) 10 cp | 147 => vq = .pointer (some ⟨gb, 3, none⟩) | 148 => vq = .int .i64 x3 | 149 => vq = .slice (some ⟨gb, 0, none⟩) 10 cp | 150 => vq = .pointer (some ⟨gb, 4, none⟩) | 151 => vq = .int .i64 x4 | 152 => vq = .slice (some ⟨gb, 0, none⟩) 10 cp | 153 => vq = .pointer (some ⟨gb, 5, none⟩) | 154 => vq = .int .i64 x5 | 155 => vq = .slice (some ⟨gb, 0, none⟩) 10 cp | 156 => vq = .pointer (some ⟨gb, 7, none⟩) | 157 => vq = .int .i64 x7 | 158 => vq = .string nm | 159 => vq = .slice (some ⟨gb, 0, none⟩) 10 cp | 160 => vq = .pointer (some ⟨gb, 8, none⟩) | 161 => vq = .int .i64 (N8 : Int) | 162 => vq = .int .i64 ((N8 : Int) - 1) | 163 => vq = .string ct | 164 => vq = .string s | 165 => vq = .int .i64 (p : Int) | 166 => vq = .slice (some ⟨gb, 0, none⟩) 10 cp | 167 => vq = .pointer (some ⟨gb, 8, none⟩) | 168 => vq = .int .i64 (N8 : Int) | 169 => vq = .int .i64 ((p : Int) + (N8 : Int)) | 170 => vq = .int .i64 ((p : Int) + (N8 : Int) + (N9 : Int)) | 171 => vq = .string dd | 172 => vq = .agg #[.int .i64 x1, .int .i64 x2, .int .i64 x3, .int .i64 x4, .int .i64 x5, .int .i64 x7, .string ct, .string dd] | 173 => vq = .int .i64 ((p : Int) + (N8 : Int) + (N9 : Int)) | 5 => vq = .int .i64 ((p : Int) + (N8 : Int) + (N9 : Int)) | 6 => vq = .int .i64 0 | _ => True) (U := fun o w' => o.dst = none → w'.heap[w.heap.size]? = some (.cells #[.int .i64 x1, .int .i64 x2, .int .i64 x3, .int .i64 x4, .int .i64 x5, .int .i64 x7, .string ct, .string dd] 23 (0, 0))) (w' := w2) (.slice (some ⟨gb, 0, none⟩) 10 cp) ?_ ?_ ?_ ?_ ?_
                  · (clear hV hI hC; go_simp <;> (first | rfl | simp | (rw [IntKind.wrap_i64]; omega)))
                  · exact hC
                  · exact Or.inl rfl
                  · intro d hd; cases hd; rfl
                  · intro h; cases h
                case o141 =>
                  intro Q a w2 hC hV hI
                  have e140 : a.eval (.tmp 140) = .slice (some ⟨gb, 0, none⟩) 10 cp := hV 140 (by simp [Op.operands]) (by kernel_rfl)
                  have f140 : a.tmps.getD 140 undef = .slice (some ⟨gb, 0, none⟩) 10 cp := e140
                  have g140 : a.tmps[140]?.getD undef = .slice (some ⟨gb, 0, none⟩) 10 cp := by rw [← Array.getD_eq_getD_getElem?]; exact e140
                  refine opU_val (C := fun w' => Below w.heap.size w w' ∧ (w'.cell? ⟨gb, 1, none⟩ = some (.int .i64 x1) ∧ w'.cell? ⟨gb, 2, none⟩ = some (.int .i64 x2) ∧ w'.cell? ⟨gb, 3, none⟩ = some (.int .i64 x3) ∧ w'.cell? ⟨gb, 4, none⟩ = some (.int .i64 x4) ∧ w'.cell? ⟨gb, 5, none⟩ = some (.int .i64 x5) ∧ w'.cell? ⟨gb, 7, none⟩ = some (.int .i64 x7) ∧ w'.cell? ⟨gb, 8, none⟩ = some (.int .i64 (N8 : Int))) ∧ (w'.heap[w.heap.size]? = some (.cells zeroC.cells.toArray 23 (0, 0)) ∨ w'.heap[w.heap.size]? = some (.cells #[.int .i64 x1, .int .i64 x2, .int .i64 x3, .int .i64 x4, .int .i64 x5, .int .i64 x7, .string ct, .string dd] 23 (0, 0)))) (St := fun x y => y.heap[w.heap.size]? = x.heap[w.heap.size]? ∨ y.heap[w.heap.size]? = some (.cells #[.int .i64 x1, .int .i64 x2, .int .i64 x3, .int .i64 x4, .int .i64 x5, .int .i64 x7, .string ct, .string dd] 23 (0, 0))) (V := fun dq vq _ => match dq with | 140 => vq = .slice (some ⟨gb, 0, none⟩) 10 cp | 141 => vq = .pointer (some ⟨gb, 1, none⟩) | 142 => vq = .int .i64 x1 | 143 => vq = .slice (some ⟨gb, 0, none⟩) 10 cp | 144 => vq = .pointer (some ⟨gb, 2, none⟩) | 145 => vq = .int .i64 x2 | 146 => vq = .slice (some ⟨gb, 0, none⟩) 10 cp | 147 => vq = .pointer (some ⟨gb, 3, none⟩) | 148 => vq = .int .i64 x3 | 149 => vq = .slice (some ⟨gb, 0, none⟩) 10 cp | 150 => vq = .pointer (some ⟨gb, 4, none⟩) | 151 => vq = .int .i64 x4 | 152 => vq = .slice (some ⟨gb, 0, none⟩) 10 cp | 153 => vq = .pointer (some ⟨gb, 5, none⟩) | 154 => vq = .int .i64 x5 | 155 => vq = .slice (some ⟨gb, 0, none⟩) 10 cp | 156 => vq = .pointer (some ⟨gb, 7, none⟩) | 157 => vq = .int .i64 x7 | 158 => vq = .string nm | 159 => vq = .slice (some ⟨gb, 0, none⟩) 10 cp | 160 => vq = .pointer (some ⟨gb, 8, none⟩) | 161 => vq = .int .i64 (N8 : Int) | 162 => vq = .int .i64 ((N8 : Int) - 1) | 163 => vq = .string ct | 164 => vq = .string s | 165 => vq = .int .i64 (p : Int) | 166 => vq = .slice (some ⟨gb, 0, none⟩) 10 cp | 167 => vq = .pointer (some ⟨gb, 8, none⟩) | 168 => vq = .int .i64 (N8 : Int) | 169 => vq = .int .i64 ((p : Int) + (N8 : Int)) | 170 => vq = .int .i64 ((p : Int) + (N8 : Int) + (N9 : Int)) | 171 => vq = .string dd | 172 => vq = .agg #[.int .i64 x1, .int .i64 x2, .int .i64 x3, .int .i64 x4, .int .i64 x5, .int .i64 x7, .string ct, .string dd] | 173 => vq = .int .i64 ((p : Int) + (N8 : Int) + (N9 : Int)) | 5 => vq = .int .i64 ((p : Int) + (N8 : Int) + (N9 : Int)) | 6 => vq = .int .i64 0 | _ => True) (U := fun o w' => o.dst = none → w'.heap[w.heap.size]? = some (.cells #[.int .i64 x1, .int .i64 x2, .int .i64 x3, .int .i64 x4, .int .i64 x5, .int .i64 x7, .string ct, .string dd] 23 (0, 0))) (w' := w2) (.pointer (some ⟨gb, 1, none⟩)) ?_ ?_ ?_ ?_ ?_
                  · (clear hV hI hC; go_simp <;> (first | rfl | simp | (rw [IntKind.wrap_i64]; omega)))
                  · exact hC
                  · exact Or.inl rfl
                  · intro d hd; cases hd; rfl
                  · intro h; cases h
                case o142 =>
                  intro Q a w2 hC hV hI
                  have e141 : a.eval (.tmp 141) = .pointer (some ⟨gb, 1, none⟩) := hV 141 (by simp [Op.operands]) (by kernel_rfl)
                  have f141 : a.tmps.getD 141 undef = .pointer (some ⟨gb, 1, none⟩) := e141
                  have g141 : a.tmps[141]?.getD undef = .pointer (some ⟨gb, 1, none⟩) := by rw [← Array.getD_eq_getD_getElem?]; exact e141
                  have hK := KC.out w2 hC.2.1
                  refine opU_val (C := fun w' => Below w.heap.size w w' ∧ (w'.cell? ⟨gb, 1, none⟩ = some (.int .i64 x1) ∧ w'.cell? ⟨gb, 2, none⟩ = some (.int .i64 x2) ∧ w'.cell? ⟨gb, 3, none⟩ = some (.int .i64 x3) ∧ w'.cell? ⟨gb, 4, none⟩ = some (.int .i64 x4) ∧ w'.cell? ⟨gb, 5, none⟩ = some (.int .i64 x5) ∧ w'.cell? ⟨gb, 7, none⟩ = some (.int .i64 x7) ∧ w'.cell? ⟨gb, 8, none⟩ = some (.int .i64 (N8 : Int))) ∧ (w'.heap[w.heap.size]? = some (.cells zeroC.cells.toArray 23 (0, 0)) ∨ w'.heap[w.heap.size]? = some (.cells #[.int .i64 x1, .int .i64 x2, .int .i64 x3, .int .i64 x4, .int .i64 x5, .int .i64 x7, .string ct, .string dd] 23 (0, 0)))) (St := fun x y => y.heap[w.heap.size]? = x.heap[w.heap.size]? ∨ y.heap[w.heap.size]? = some (.cells #[.int .i64 x1, .int .i64 x2, .int .i64 x3, .int .i64 x4, .int .i64 x5, .int .i64 x7, .string ct, .string dd] 23 (0, 0))) (V := fun dq vq _ => match dq with | 140 => vq = .slice (some ⟨gb, 0, none⟩) 10 cp | 141 => vq = .pointer (some ⟨gb, 1, none⟩) | 142 => vq = .int .i64 x1 | 143 => vq = .slice (some ⟨gb, 0, none⟩) 10 cp | 144 => vq = .pointer (some ⟨gb, 2, none⟩) | 145 => vq = .int .i64 x2 | 146 => vq = .slice (some ⟨gb, 0, none⟩) 10 cp | 147 => vq = .pointer (some ⟨gb, 3, none⟩) | 148 => vq = .int .i64 x3 | 149 => vq = .slice (some ⟨gb, 0, none⟩) 10 cp | 150 => vq = .pointer (some ⟨gb, 4, none⟩) | 151 => vq = .int .i64 x4 | 152 => vq = .slice (some ⟨gb, 0, none⟩) 10 cp | 153 => vq = .pointer (some ⟨gb, 5, none⟩) | 154 => vq = .int .i64 x5 | 155 => vq = .slice (some ⟨gb, 0, none⟩) 10 cp | 156 => vq = .pointer (some ⟨gb, 7, none⟩) | 157 => vq = .int .i64 x7 | 158 => vq = .string nm | 159 => vq = .slice (some ⟨gb, 0, none⟩) 10 cp | 160 => vq = .pointer (some ⟨gb, 8, none⟩) | 161 => vq = .int .i64 (N8 : Int) | 162 => vq = .int .i64 ((N8 : Int) - 1) | 163 => vq = .string ct | 164 => vq = .string s | 165 => vq = .int .i64 (p : Int) | 166 => vq = .slice (some ⟨gb, 0, none⟩) 10 cp | 167 => vq = .pointer (some ⟨gb, 8, none⟩) | 168 => vq = .int .i64 (N8 : Int) | 169 => vq = .int .i64 ((p : Int) + (N8 : Int)) | 170 => vq = .int .i64 ((p : Int) + (N8 : Int) + (N9 : Int)) | 171 => vq = .string dd | 172 => vq = .agg #[.int .i64 x1, .int .i64 x2, .int .i64 x3, .int .i64 x4, .int .i64 x5, .int .i64 x7, .string ct, .string dd] | 173 => vq = .int .i64 ((p : Int) + (N8 : Int) + (N9 : Int)) | 5 => vq = .int .i64 ((p : Int) + (N8 : Int) + (N9 : Int)) | 6 => vq = .int .i64 0 | _ => True) (U := fun o w' => o.dst = none → w'.heap[w.heap.size]? = some (.cells #[.int .i64 x1, .int .i64 x2, .int .i64 x3, .int .i64 x4, .int .i64 x5, .int .i64 x7, .string ct, .string dd] 23 (0, 0))) (w' := w2) (.int .i64 x1) ?_ ?_ ?_ ?_ ?_
                  · (clear hV hI hC; go_simp <;> (first | rfl | simp | (rw [IntKind.wrap_i64]; omega)))
                  · exact hC
                  · exact Or.inl rfl
                  · intro d hd; cases hd; rfl
                  · intro h; cases h
                case o143 =>
                  intro Q a w2 hC hV hI
                  have e7 : a.eval (.tmp 7) = .slice (some ⟨gb, 0, none⟩) 10 cp := (hI 7 (by simp [Op.operands]) (by kernel_rfl)).trans rfl
                  have f7 : a.tmps.getD 7 undef = .slice (some ⟨gb, 0, none⟩) 10 cp := e7
                  have g7 : a.tmps[7]?.getD undef = .slice (some ⟨gb, 0, none⟩) 10 cp := by rw [← Array.getD_eq_getD_getElem?]; exact e7
                  refine opU_val (C := fun w' => Below w.heap.size w w' ∧ (w'.cell? ⟨gb, 1, none⟩ = some (.int .i64 x1) ∧ w'.cell? ⟨gb, 2, none⟩ = some (.int .i64 x2) ∧ w'.cell? ⟨gb, 3, none⟩ = some (.int .i64 x3) ∧ w'.cell? ⟨gb, 4, none⟩ = some (.int .i64 x4) ∧ w'.cell? ⟨gb, 5, none⟩ = some (.int .i64 x5) ∧ w'.cell? ⟨gb, 7, none⟩ = some (.int .i64 x7) ∧ w'.cell? ⟨gb, 8, none⟩ = some (.int .i64 (N8 : Int))) ∧ (w'.heap[w.heap.size]? = some (.cells zeroC.cells.toArray 23 (0, 0)) ∨ w'.heap[w.heap.size]? = some (.cells #[.int .i64 x1, .int .i64 x2, .int .i64 x3, .int .i64 x4, .int .i64 x5, .int .i64 x7, .string ct, .string dd] 23 (0, 0)))) (St := fun x y => y.heap[w.heap.size]? = x.heap[w.heap.size]? ∨ y.heap[w.heap.size]? = some (.cells #[.int .i64 x1, .int .i64 x2, .int .i64 x3, .int .i64 x4, .int .i64 x5, .int .i64 x7, .string ct, .string dd] 23 (0, 0))) (V := fun dq vq _ => match dq with | 140 => vq = .slice (some ⟨gb, 0, none⟩) 10 cp | 141 => vq = .pointer (some ⟨gb, 1, none⟩) | 142 => vq = .int .i64 x1 | 143 => vq = .slice (some ⟨gb, 0, none⟩) 10 cp | 144 => vq = .pointer (some ⟨gb, 2, none⟩) | 145 => vq = .int .i64 x2 | 146 => vq = .slice (some ⟨gb, 0, none⟩) 10 cp | 147 => vq = .pointer (some ⟨gb, 3, none⟩) | 148 => vq = .int .i64 x3 | 149 => vq = .slice (some ⟨gb, 0, none⟩) 10 cp | 150 => vq = .pointer (some ⟨gb, 4, none⟩) | 151 => vq = .int .i64 x4 | 152 => vq = .slice (some ⟨gb, 0, none⟩) 10 cp | 153 => vq = .pointer (some ⟨gb, 5, none⟩) | 154 => vq = .int .i64 x5 | 155 => vq = .slice (some ⟨gb, 0, none⟩) 10 cp | 156 => vq = .pointer (some ⟨gb, 7, none⟩) | 157 => vq = .int .i64 x7 | 158 => vq = .string nm | 159 => vq = .slice (some ⟨gb, 0, none⟩) 10 cp | 160 => vq = .pointer (some ⟨gb, 8, none⟩) | 161 => vq = .int .i64 (N8 : Int) | 162 => vq = .int .i64 ((N8 : Int) - 1) | 163 => vq = .string ct | 164 => vq = .string s | 165 => vq = .int .i64 (p : Int) | 166 => vq = .slice (some ⟨gb, 0, none⟩) 10 cp | 167 => vq = .pointer (some ⟨gb, 8, none⟩) | 168 => vq = .int .i64 (N8 : Int) | 169 => vq = .int .i64 ((p : Int) + (N8 : Int)) | 170 => vq = .int .i64 ((p : Int) + (N8 : Int) + (N9 : Int)) | 171 => vq = .string dd | 172 => vq = .agg #[.int .i64 x1, .int .i64 x2, .int .i64 x3, .int .i64 x4, .int .i64 x5, .int .i64 x7, .string ct, .string dd] | 173 => vq = .int .i64 ((p : Int) + (N8 : Int) + (N9 : Int)) | 5 => vq = .int .i64 ((p : Int) + (N8 : Int) + (N9 : Int)) | 6 => vq = .int .i64 0 | _ => True) (U := fun o w' => o.dst = none → w'.heap[w.heap.size]? = some (.cells #[.int .i64 x1, .int .i64 x2, .int .i64 x3, .int .i64 x4, .int .i64 x5, .int .i64 x7, .string ct, .string dd] 23 (0, 0))) (w' := w2) (.slice (some ⟨gb, 0, none⟩) 10 cp) ?_ ?_ ?_ ?_ ?_
                  · (clear hV hI hC; go_simp <;> (first | rfl | simp | (rw [IntKind.wrap_i64]; omega)))
                  · exact hC
                  · exact Or.inl rfl
                  · intro d hd; cases hd; rfl
                  · intro h; cases h
                case o144 =>
                  intro Q a w2 hC hV hI
                  have e143 : a.eval (.tmp 143) = .slice (some ⟨gb, 0, none⟩) 10 cp := hV 143 (by simp [Op.operands]) (by kernel_rfl)
                  have f143 : a.tmps.getD 143 undef = .slice (some ⟨gb, 0, none⟩) 10 cp := e143
                  have g143 : a.tmps[143]?.getD undef = .slice (some ⟨gb, 0, none⟩) 10 cp := by rw [← Array.getD_eq_getD_getElem?]; exact e143
                  refine opU_val (C := fun w' => Below w.heap.size w w' ∧ (w'.cell? ⟨gb, 1, none⟩ = some (.int .i64 x1) ∧ w'.cell? ⟨gb, 2, none⟩ = some (.int .i64 x2) ∧ w'.cell? ⟨gb, 3, none⟩ = some (.int .i64 x3) ∧ w'.cell? ⟨gb, 4, none⟩ = some (.int .i64 x4) ∧ w'.cell? ⟨gb, 5, none⟩ = some (.int .i64 x5) ∧ w'.cell? ⟨gb, 7, none⟩ = some (.int .i64 x7) ∧ w'.cell? ⟨gb, 8, none⟩ = some (.int .i64 (N8 : Int))) ∧ (w'.heap[w.heap.size]? = some (.cells zeroC.cells.toArray 23 (0, 0)) ∨ w'.heap[w.heap.size]? = some (.cells #[.int .i64 x1, .int .i64 x2, .int .i64 x3, .int .i64 x4, .int .i64 x5, .int .i64 x7, .string ct, .string dd] 23 (0, 0)))) (St := fun x y => y.heap[w.heap.size]? = x.heap[w.heap.size]? ∨ y.heap[w.heap.size]? = some (.cells #[.int .i64 x1, .int .i64 x2, .int .i64 x3, .int .i64 x4, .int .i64 x5, .int .i64 x7, .string ct, .string dd] 23 (0, 0))) (V := fun dq vq _ => match dq with | 140 => vq = .slice (some ⟨gb, 0, none⟩) 10 cp | 141 => vq = .pointer (some ⟨gb, 1, none⟩) | 142 => vq = .int .i64 x1 | 143 => vq = .slice (some ⟨gb, 0, none⟩) 10 cp | 144 => vq = .pointer (some ⟨gb, 2, none⟩) | 145 => vq = .int .i64 x2 | 146 => vq = .slice (some ⟨gb, 0, none⟩) 10 cp | 147 => vq = .pointer (some ⟨gb, 3, none⟩) | 148 => vq = .int .i64 x3 | 149 => vq = .slice (some ⟨gb, 0, none⟩) 10 cp | 150 => vq = .pointer (some ⟨gb, 4, none⟩) | 151 => vq = .int .i64 x4 | 152 => vq = .slice (some ⟨gb, 0, none⟩) 10 cp | 153 => vq = .pointer (some ⟨gb, 5, none⟩) | 154 => vq = .int .i64 x5 | 155 => vq = .slice (some ⟨gb, 0, none⟩) 10 cp | 156 => vq = .pointer (some ⟨gb, 7, none⟩) | 157 => vq = .int .i64 x7 | 158 => vq = .string nm | 159 => vq = .slice (some ⟨gb, 0, none⟩) 10 cp | 160 => vq = .pointer (some ⟨gb, 8, none⟩) | 161 => vq = .int .i64 (N8 : Int) | 162 => vq = .int .i64 ((N8 : Int) - 1) | 163 => vq = .string ct | 164 => vq = .string s | 165 => vq = .int .i64 (p : Int) | 166 => vq = .slice (some ⟨gb, 0, none⟩) 10 cp | 167 => vq = .pointer (some ⟨gb, 8, none⟩) | 168 => vq = .int .i64 (N8 : Int) | 169 => vq = .int .i64 ((p : Int) + (N8 : Int)) | 170 => vq = .int .i64 ((p : Int) + (N8 : Int) + (N9 : Int)) | 171 => vq = .string dd | 172 => vq = .agg #[.int .i64 x1, .int .i64 x2, .int .i64 x3, .int .i64 x4, .int .i64 x5, .int .i64 x7, .string ct, .string dd] | 173 => vq = .int .i64 ((p : Int) + (N8 : Int) + (N9 : Int)) | 5 => vq = .int .i64 ((p : Int) + (N8 : Int) + (N9 : Int)) | 6 => vq = .int .i64 0 | _ => True) (U := fun o w' => o.dst = none → w'.heap[w.heap.size]? = some (.cells #[.int .i64 x1, .int .i64 x2, .int .i64 x3, .int .i64 x4, .int .i64 x5, .int .i64 x7, .string ct, .string dd] 23 (0, 0))) (w' := w2) (.pointer (some ⟨gb, 2, none⟩)) ?_ ?_ ?_ ?_ ?_
                  · (clear hV hI hC; go_simp <;> (first | rfl | simp | (rw [IntKind.wrap_i64]; omega)))
                  · exact hC
                  · exact Or.inl rfl
                  · intro d hd; cases hd; rfl
                  · intro h; cases h
                case o145 =>
                  intro Q a w2 hC hV hI
                  have e144 : a.eval (.tmp 144) = .pointer (some ⟨gb, 2, none⟩) := hV 144 (by simp [Op.operands]) (by kernel_rfl)
                  have f144 : a.tmps.getD 144 undef = .pointer (some ⟨gb, 2, none⟩) := e144
                  have g144 : a.tmps[144]?.getD undef = .pointer (some ⟨gb, 2, none⟩) := by rw [← Array.getD_eq_getD_getElem?]; exact e144
                  have hK := KC.out w2 hC.2.1
                  refine opU_val (C := fun w' => Below w.heap.size w w' ∧ (w'.cell? ⟨gb, 1, none⟩ = some (.int .i64 x1) ∧ w'.cell? ⟨gb, 2, none⟩ = some (.int .i64 x2) ∧ w'.cell? ⟨gb, 3, none⟩ = some (.int .i64 x3) ∧ w'.cell? ⟨gb, 4, none⟩ = some (.int .i64 x4) ∧ w'.cell? ⟨gb, 5, none⟩ = some (.int .i64 x5) ∧ w'.cell? ⟨gb, 7, none⟩ = some (.int .i64 x7) ∧ w'.cell? ⟨gb, 8, none⟩ = some (.int .i64 (N8 : Int))) ∧ (w'.heap[w.heap.size]? = some (.cells zeroC.cells.toArray 23 (0, 0)) ∨ w'.heap[w.heap.size]? = some (.cells #[.int .i64 x1, .int .i64 x2, .int .i64 x3, .int .i64 x4, .int .i64 x5, .int .i64 x7, .string ct, .string dd] 23 (0, 0)))) (St := fun x y => y.heap[w.heap.size]? = x.heap[w.heap.size]? ∨ y.heap[w.heap.size]? = some (.cells #[.int .i64 x1, .int .i64 x2, .int .i64 x3, .int .i64 x4, .int .i64 x5, .int .i64 x7, .string ct, .string dd] 23 (0, 0))) (V := fun dq vq _ => match dq with | 140 => vq = .slice (some ⟨gb, 0, none⟩) 10 cp | 141 => vq = .pointer (some ⟨gb, 1, none⟩) | 142 => vq = .int .i64 x1 | 143 => vq = .slice (some ⟨gb, 0, none⟩) 10 cp | 144 => vq = .pointer (some ⟨gb, 2, none⟩) | 145 => vq = .int .i64 x2 | 146 => vq = .slice (some ⟨gb, 0, none⟩) 10 cp | 147 => vq = .pointer (some ⟨gb, 3, none⟩) | 148 => vq = .int .i64 x3 | 149 => vq = .slice (some ⟨gb, 0, none⟩) 10 cp | 150 => vq = .pointer (some ⟨gb, 4, none⟩) | 151 => vq = .int .i64 x4 | 152 => vq = .slice (some ⟨gb, 0, none⟩) 10 cp | 153 => vq = .pointer (some ⟨gb, 5, none⟩) | 154 => vq = .int .i64 x5 | 155 => vq = .slice (some ⟨gb, 0, none⟩) 10 cp | 156 => vq = .pointer (some ⟨gb, 7, none⟩) | 157 => vq = .int .i64 x7 | 158 => vq = .string nm | 159 => vq = .slice (some ⟨gb, 0, none⟩) 10 cp | 160 => vq = .pointer (some ⟨gb, 8, none⟩) | 161 => vq = .int .i64 (N8 : Int) | 162 => vq = .int .i64 ((N8 : Int) - 1) | 163 => vq = .string ct | 164 => vq = .string s | 165 => vq = .int .i64 (p : Int) | 166 => vq = .slice (some ⟨gb, 0, none⟩) 10 cp | 167 => vq = .pointer (some ⟨gb, 8, none⟩) | 168 => vq = .int .i64 (N8 : Int) | 169 => vq = .int .i64 ((p : Int) + (N8 : Int)) | 170 => vq = .int .i64 ((p : Int) + (N8 : Int) + (N9 : Int)) | 171 => vq = .string dd | 172 => vq = .agg #[.int .i64 x1, .int .i64 x2, .int .i64 x3, .int .i64 x4, .int .i64 x5, .int .i64 x7, .string ct, .string dd] | 173 => vq = .int .i64 ((p : Int) + (N8 : Int) + (N9 : Int)) | 5 => vq = .int .i64 ((p : Int) + (N8 : Int) + (N9 : Int)) | 6 => vq = .int .i64 0 | _ => True) (U := fun o w' => o.dst = none → w'.heap[w.heap.size]? = some (.cells #[.int .i64 x1, .int .i64 x2, .int .i64 x3, .int .i64 x4, .int .i64 x5, .int .i64 x7, .string ct, .string dd] 23 (0, 0))) (w' := w2) (.int .i64 x2) ?_ ?_ ?_ ?_ ?_
                  · (clear hV hI hC; go_simp <;> (first | rfl | simp | (rw [IntKind.wrap_i64]; omega)))
                  · exact hC
                  · exact Or.inl rfl
                  · intro d hd; cases hd; rfl
                  · intro h; cases h
                case o146 =>
                  intro Q a w2 hC hV hI
                  have e7 : a.eval (.tmp 7) = .slice (some ⟨gb, 0, none⟩) 10 cp := (hI 7 (by simp [Op.operands]) (by kernel_rfl)).trans rfl
                  have f7 : a.tmps.getD 7 undef = .slice (some ⟨gb, 0, none⟩) 10 cp := e7
                  have g7 : a.tmps[7]?.getD undef = .slice (some ⟨gb, 0, none⟩) 10 cp := by rw [← Array.getD_eq_getD_getElem?]; exact e7
                  refine opU_val (C := fun w' => Below w.heap.size w w' ∧ (w'.cell? ⟨gb, 1, none⟩ = some (.int .i64 x1) ∧ w'.cell? ⟨gb, 2, none⟩ = some (.int .i64 x2) ∧ w'.cell? ⟨gb, 3, none⟩ = some (.int .i64 x3) ∧ w'.cell? ⟨gb, 4, none⟩ = some (.int .i64 x4) ∧ w'.cell? ⟨gb, 5, none⟩ = some (.int .i64 x5) ∧ w'.cell? ⟨gb, 7, none⟩ = some (.int .i64 x7) ∧ w'.cell? ⟨gb, 8, none⟩ = some (.int .i64 (N8 : Int))) ∧ (w'.heap[w.heap.size]? = some (.cells zeroC.cells.toArray 23 (0, 0)) ∨ w'.heap[w.heap.size]? = some (.cells #[.int .i64 x1, .int .i64 x2, .int .i64 x3, .int .i64 x4, .int .i64 x5, .int .i64 x7, .string ct, .string dd] 23 (0, 0)))) (St := fun x y => y.heap[w.heap.size]? = x.heap[w.heap.size]? ∨ y.heap[w.heap.size]? = some (.cells #[.int .i64 x1, .int .i64 x2, .int .i64 x3, .int .i64 x4, .int .i64 x5, .int .i64 x7, .string ct, .string dd] 23 (0, 0))) (V := fun dq vq _ => match dq with | 140 => vq = .slice (some ⟨gb, 0, none⟩) 10 cp | 141 => vq = .pointer (some ⟨gb, 1, none⟩) | 142 => vq = .int .i64 x1 | 143 => vq = .slice (some ⟨gb, 0, none⟩) 10 cp | 144 => vq = .pointer (some ⟨gb, 2, none⟩) | 145 => vq = .int .i64 x2 | 146 => vq = .slice (some ⟨gb, 0, none⟩) 10 cp | 147 => vq = .pointer (some ⟨gb, 3, none⟩) | 148 => vq = .int .i64 x3 | 149 => vq = .slice (some ⟨gb, 0, none⟩) 10 cp | 150 => vq = .pointer (some ⟨gb, 4, none⟩) | 151 => vq = .int .i64 x4 | 152 => vq = .slice (some ⟨gb, 0, none⟩) 10 cp | 153 => vq = .pointer (some ⟨gb, 5, none⟩) | 154 => vq = .int .i64 x5 | 155 => vq = .slice (some ⟨gb, 0, none⟩) 10 cp | 156 => vq = .pointer (some ⟨gb, 7, none⟩) | 157 => vq = .int .i64 x7 | 158 => vq = .string nm | 159 => vq = .slice (some ⟨gb, 0, none⟩) 10 cp | 160 => vq = .pointer (some ⟨gb, 8, none⟩) | 161 => vq = .int .i64 (N8 : Int) | 162 => vq = .int .i64 ((N8 : Int) - 1) | 163 => vq = .string ct | 164 => vq = .string s | 165 => vq = .int .i64 (p : Int) | 166 => vq = .slice (some ⟨gb, 0, none⟩) 10 cp | 167 => vq = .pointer (some ⟨gb, 8, none⟩) | 168 => vq = .int .i64 (N8 : Int) | 169 => vq = .int .i64 ((p : Int) + (N8 : Int)) | 170 => vq = .int .i64 ((p : Int) + (N8 : Int) + (N9 : Int)) | 171 => vq = .string dd | 172 => vq = .agg #[.int .i64 x1, .int .i64 x2, .int .i64 x3, .int .i64 x4, .int .i64 x5, .int .i64 x7, .string ct, .string dd] | 173 => vq = .int .i64 ((p : Int) + (N8 : Int) + (N9 : Int)) | 5 => vq = .int .i64 ((p : Int) + (N8 : Int) + (N9 : Int)) | 6 => vq = .int .i64 0 | _ => True) (U := fun o w' => o.dst = none → w'.heap[w.heap.size]? = some (.cells #[.int .i64 x1, .int .i64 x2, .int .i64 x3, .int .i64 x4, .int .i64 x5, .int .i64 x7, .string ct, .string dd] 23 (0, 0))) (w' := w2) (.slice (some ⟨gb, 0, none⟩) 10 cp) ?_ ?_ ?_ ?_ ?_
                  · (clear hV hI hC; go_simp <;> (first | rfl | simp | (rw [IntKind.wrap_i64]; omega)))
                  · exact hC
                  · exact Or.inl rfl
                  · intro d hd; cases hd; rfl
                  · intro h; cases h
                case o147 =>
                  intro Q a w2 hC hV hI
                  have e146 : a.eval (.tmp 146) = .slice (some ⟨gb, 0, none⟩) 10 cp := hV 146 (by simp [Op.operands]) (by kernel_rfl)
                  have f146 : a.tmps.getD 146 undef = .slice (some ⟨gb, 0, none⟩) 10 cp := e146
                  have g146 : a.tmps[146]?.getD undef = .slice (some ⟨gb, 0, none⟩) 10 cp := by rw [← Array.getD_eq_getD_getElem?]; exact e146
                  refine opU_val (C := fun w' => Below w.heap.size w w' ∧ (w'.cell? ⟨gb, 1, none⟩ = some (.int .i64 x1) ∧ w'.cell? ⟨gb, 2, none⟩ = some (.int .i64 x2) ∧ w'.cell? ⟨gb, 3, none⟩ = some (.int .i64 x3) ∧ w'.cell? ⟨gb, 4, none⟩ = some (.int .i64 x4) ∧ w'.cell? ⟨gb, 5, none⟩ = some (.int .i64 x5) ∧ w'.cell? ⟨gb, 7, none⟩ = some (.int .i64 x7) ∧ w'.cell? ⟨gb, 8, none⟩ = some (.int .i64 (N8 : Int))) ∧ (w'.heap[w.heap.size]? = some (.cells zeroC.cells.toArray 23 (0, 0)) ∨ w'.heap[w.heap.size]? = some (.cells #[.int .i64 x1, .int .i64 x2, .int .i64 x3, .int .i64 x4, .int .i64 x5, .int .i64 x7, .string ct, .string dd] 23 (0, 0)))) (St := fun x y => y.heap[w.heap.size]? = x.heap[w.heap.size]? ∨ y.heap[w.heap.size]? = some (.cells #[.int .i64 x1, .int .i64 x2, .int .i64 x3, .int .i64 x4, .int .i64 x5, .int .i64 x7, .string ct, .string dd] 23 (0, 0))) (V := fun dq vq _ => match dq with | 140 => vq = .slice (some ⟨gb, 0, none⟩) 10 cp | 141 => vq = .pointer (some ⟨gb, 1, none⟩) | 142 => vq = .int .i64 x1 | 143 => vq = .slice (some ⟨gb, 0, none⟩) 10 cp | 144 => vq = .pointer (some ⟨gb, 2, none⟩) | 145 => vq = .int .i64 x2 | 146 => vq = .slice (some ⟨gb, 0, none⟩) 10 cp | 147 => vq = .pointer (some ⟨gb, 3, none⟩) | 148 => vq = .int .i64 x3 | 149 => vq = .slice (some ⟨gb, 0, none⟩) 10 cp | 150 => vq = .pointer (some ⟨gb, 4, none⟩) | 151 => vq = .int .i64 x4 | 152 => vq = .slice (some ⟨gb, 0, none⟩) 10 cp | 153 => vq = .pointer (some ⟨gb, 5, none⟩) | 154 => vq = .int .i64 x5 | 155 => vq = .slice (some ⟨gb, 0, none⟩) 10 cp | 156 => vq = .pointer (some ⟨gb, 7, none⟩) | 157 => vq = .int .i64 x7 | 158 => vq = .string nm | 159 => vq = .slice (some ⟨gb, 0, none⟩) 10 cp | 160 => vq = .pointer (some ⟨gb, 8, none⟩) | 161 => vq = .int .i64 (N8 : Int) | 162 => vq = .int .i64 ((N8 : Int) - 1) | 163 => vq = .string ct | 164 => vq = .string s | 165 => vq = .int .i64 (p : Int) | 166 => vq = .slice (some ⟨gb, 0, none⟩) 10 cp | 167 => vq = .pointer (some ⟨gb, 8, none⟩) | 168 => vq = .int .i64 (N8 : Int) | 169 => vq = .int .i64 ((p : Int) + (N8 : Int)) | 170 => vq = .int .i64 ((p : Int) + (N8 : Int) + (N9 : Int)) | 171 => vq = .string dd | 172 => vq = .agg #[.int .i64 x1, .int .i64 x2, .int .i64 x3, .int .i64 x4, .int .i64 x5, .int .i64 x7, .string ct, .string dd] | 173 => vq = .int .i64 ((p : Int) + (N8 : Int) + (N9 : Int)) | 5 => vq = .int .i64 ((p : Int) + (N8 : Int) + (N9 : Int)) | 6 => vq = .int .i64 0 | _ => True) (U := fun o w' => o.dst = none → w'.heap[w.heap.size]? = some (.cells #[.int .i64 x1, .int .i64 x2, .int .i64 x3, .int .i64 x4, .int .i64 x5, .int .i64 x7, .string ct, .string dd] 23 (0, 0))) (w' := w2) (.pointer (some ⟨gb, 3, none⟩)) ?_ ?_ ?_ ?_ ?_
                  · (clear hV hI hC; go_simp <;> (first | rfl | simp | (rw [IntKind.wrap_i64]; omega)))
                  · exact hC
                  · exact Or.inl rfl
                  · intro d hd; cases hd; rfl
                  · intro h; cases h
                case o148 =>
                  intro Q a w2 hC hV hI
                  have e147 : a.eval (.tmp 147) = .pointer (some ⟨gb, 3, none⟩) := hV 147 (by simp [Op.operands]) (by kernel_rfl)
                  have f147 : a.tmps.getD 147 undef = .pointer (some ⟨gb, 3, none⟩) := e147
                  have g147 : a.tmps[147]?.getD undef = .pointer (some ⟨gb, 3, none⟩) := by rw [← Array.getD_eq_getD_getElem?]; exact e147
                  have hK := KC.out w2 hC.2.1
                  refine opU_val (C := fun w' => Below w.heap.size w w' ∧ (w'.cell? ⟨gb, 1, none⟩ = some (.int .i64 x1) ∧ w'.cell? ⟨gb, 2, none⟩ = some (.int .i64 x2) ∧ w'.cell? ⟨gb, 3, none⟩ = some (.int .i64 x3) ∧ w'.cell? ⟨gb, 4, none⟩ = some (.int .i64 x4) ∧ w'.cell? ⟨gb, 5, none⟩ = some (.int .i64 x5) ∧ w'.cell? ⟨gb, 7, none⟩ = some (.int .i64 x7) ∧ w'.cell? ⟨gb, 8, none⟩ = some (.int .i64 (N8 : Int))) ∧ (w'.heap[w.heap.size]? = some (.cells zeroC.cells.toArray 23 (0, 0)) ∨ w'.heap[w.heap.size]? = some (.cells #[.int .i64 x1, .int .i64 x2, .int .i64 x3, .int .i64 x4, .int .i64 x5, .int .i64 x7, .string ct, .string dd] 23 (0, 0)))) (St := fun x y => y.heap[w.heap.size]? = x.heap[w.heap.size]? ∨ y.heap[w.heap.size]? = some (.cells #[.int .i64 x1, .int .i64 x2, .int .i64 x3, .int .i64 x4, .int .i64 x5, .int .i64 x7, .string ct, .string dd] 23 (0, 0))) (V := fun dq vq _ => match dq with | 140 => vq = .slice (some ⟨gb, 0, none⟩) 10 cp | 141 => vq = .pointer (some ⟨gb, 1, none⟩) | 142 => vq = .int .i64 x1 | 143 => vq = .slice (some ⟨gb, 0, none⟩) 10 cp | 144 => vq = .pointer (some ⟨gb, 2, none⟩) | 145 => vq = .int .i64 x2 | 146 => vq = .slice (some ⟨gb, 0, none⟩) 10 cp | 147 => vq = .pointer (some ⟨gb, 3, none⟩) | 148 => vq = .int .i64 x3 | 149 => vq = .slice (some ⟨gb, 0, none⟩) 10 cp | 150 => vq = .pointer (some ⟨gb, 4, none⟩) | 151 => vq = .int .i64 x4 | 152 => vq = .slice (some ⟨gb, 0, none⟩) 10 cp | 153 => vq = .pointer (some ⟨gb, 5, none⟩) | 154 => vq = .int .i64 x5 | 155 => vq = .slice (some ⟨gb, 0, none⟩) 10 cp | 156 => vq = .pointer (some ⟨gb, 7, none⟩) | 157 => vq = .int .i64 x7 | 158 => vq = .string nm | 159 => vq = .slice (some ⟨gb, 0, none⟩) 10 cp | 160 => vq = .pointer (some ⟨gb, 8, none⟩) | 161 => vq = .int .i64 (N8 : Int) | 162 => vq = .int .i64 ((N8 : Int) - 1) | 163 => vq = .string ct | 164 => vq = .string s | 165 => vq = .int .i64 (p : Int) | 166 => vq = .slice (some ⟨gb, 0, none⟩) 10 cp | 167 => vq = .pointer (some ⟨gb, 8, none⟩) | 168 => vq = .int .i64 (N8 : Int) | 169 => vq = .int .i64 ((p : Int) + (N8 : Int)) | 170 => vq = .int .i64 ((p : Int) + (N8 : Int) + (N9 : Int)) | 171 => vq = .string dd | 172 => vq = .agg #[.int .i64 x1, .int .i64 x2, .int .i64 x3, .int .i64 x4, .int .i64 x5, .int .i64 x7, .string ct, .string dd] | 173 => vq = .int .i64 ((p : Int) + (N8 : Int) + (N9 : Int)) | 5 => vq = .int .i64 ((p : Int) + (N8 : Int) + (N9 : Int)) | 6 => vq = .int .i64 0 | _ => True) (U := fun o w' => o.dst = none → w'.heap[w.heap.size]? = some (.cells #[.int .i64 x1, .int .i64 x2, .int .i64 x3, .int .i64 x4, .int .i64 x5, .int .i64 x7, .string ct, .string dd] 23 (0, 0))) (w' := w2) (.int .i64 x3) ?_ ?_ ?_ ?_ ?_
                  · (clear hV hI hC; go_simp <;> (first | rfl | simp | (rw [IntKind.wrap_i64]; omega)))
                  · exact hC
                  · exact Or.inl rfl
                  · intro d hd; cases hd; rfl
                  · intro h; cases h
                case o149 =>
                  intro Q a w2 hC hV hI
                  have e7 : a.eval (.tmp 7) = .slice (some ⟨gb, 0, none⟩) 10 cp := (hI 7 (by simp [Op.operands]) (by kernel_rfl)).trans rfl
                  have f7 : a.tmps.getD 7 undef = .slice (some ⟨gb, 0, none⟩) 10 cp := e7
                  have g7 : a.tmps[7]?.getD undef = .slice (some ⟨gb, 0, none⟩) 10 cp := by rw [← Array.getD_eq_getD_getElem?]; exact e7
                  refine opU_val (C := fun w' => Below w.heap.size w w' ∧ (w'.cell? ⟨gb, 1, none⟩ = some (.int .i64 x1) ∧ w'.cell? ⟨gb, 2, none⟩ = some (.int .i64 x2) ∧ w'.cell? ⟨gb, 3, none⟩ = some (.int .i64 x3) ∧ w'.cell? ⟨gb, 4, none⟩ = some (.int .i64 x4) ∧ w'.cell? ⟨gb, 5, none⟩ = some (.int .i64 x5) ∧ w'.cell? ⟨gb, 7, none⟩ = some (.int .i64 x7) ∧ w'.cell? ⟨gb, 8, none⟩ = some (.int .i64 (N8 : Int))) ∧ (w'.heap[w.heap.size]? = some (.cells zeroC.cells.toArray 23 (0, 0)) ∨ w'.heap[w.heap.size]? = some (.cells #[.int .i64 x1, .int .i64 x2, .int .i64 x3, .int .i64 x4, .int .i64 x5, .int .i64 x7, .string ct, .string dd] 23 (0, 0)))) (St := fun x y => y.heap[w.heap.size]? = x.heap[w.heap.size]? ∨ y.heap[w.heap.size]? = some (.cells #[.int .i64 x1, .int .i64 x2, .int .i64 x3, .int .i64 x4, .int .i64 x5, .int .i64 x7, .string ct, .string dd] 23 (0, 0))) (V := fun dq vq _ => match dq with | 140 => vq = .slice (some ⟨gb, 0, none⟩) 10 cp | 141 => vq = .pointer (some ⟨gb, 1, none⟩) | 142 => vq = .int .i64 x1 | 143 => vq = .slice (some ⟨gb, 0, none⟩) 10 cp | 144 => vq = .pointer (some ⟨gb, 2, none⟩) | 145 => vq = .int .i64 x2 | 146 => vq = .slice (some ⟨gb, 0, none⟩) 10 cp | 147 => vq = .pointer (some ⟨gb, 3, none⟩) | 148 => vq = .int .i64 x3 | 149 => vq = .slice (some ⟨gb, 0, none⟩) 10 cp | 150 => vq = .pointer (some ⟨gb, 4, none⟩) | 151 => vq = .int .i64 x4 | 152 => vq = .slice (some ⟨gb, 0, none⟩) 10 cp | 153 => vq = .pointer (some ⟨gb, 5, none⟩) | 154 => vq = .int .i64 x5 | 155 => vq = .slice (some ⟨gb, 0, none⟩) 10 cp | 156 => vq = .pointer (some ⟨gb, 7, none⟩) | 157 => vq = .int .i64 x7 | 158 => vq = .string nm | 159 => vq = .slice (some ⟨gb, 0, none⟩) 10 cp | 160 => vq = .pointer (some ⟨gb, 8, none⟩) | 161 => vq = .int .i64 (N8 : Int) | 162 => vq = .int .i64 ((N8 : Int) - 1) | 163 => vq = .string ct | 164 => vq = .string s | 165 => vq = .int .i64 (p : Int) | 166 => vq = .slice (some ⟨gb, 0, none⟩) 10 cp | 167 => vq = .pointer (some ⟨gb, 8, none⟩) | 168 => vq = .int .i64 (N8 : Int) | 169 => vq = .int .i64 ((p : Int) + (N8 : Int)) | 170 => vq = .int .i64 ((p : Int) + (N8 : Int) + (N9 : Int)) | 171 => vq = .string dd | 172 => vq = .agg #[.int .i64 x1, .int .i64 x2, .int .i64 x3, .int .i64 x4, .int .i64 x5, .int .i64 x7, .string ct, .string dd] | 173 => vq = .int .i64 ((p : Int) + (N8 : Int) + (N9 : Int)) | 5 => vq = .int .i64 ((p : Int) + (N8 : Int) + (N9 : Int)) | 6 => vq = .int .i64 0 | _ => True) (U := fun o w' => o.dst = none → w'.heap[w.heap.size]? = some (.cells #[.int .i64 x1, .int .i64 x2, .int .i64 x3, .int .i64 x4, .int .i64 x5, .int .i64 x7, .string ct, .string dd] 23 (0, 0))) (w' := w2) (.slice (some ⟨gb, 0, none⟩) 10 cp) ?_ ?_ ?_ ?_ ?_
                  · (clear hV hI hC; go_simp <;> (first | rfl | simp | (rw [IntKind.wrap_i64]; omega)))
                  · exact hC
                  · exact Or.inl rfl
                  · intro d hd; cases hd; rfl
                  · intro h; cases h
                case o150 =>
                  intro Q a w2 hC hV hI
                  have e149 : a.eval (.tmp 149) = .slice (some ⟨gb, 0, none⟩) 10 cp := hV 149 (by simp [Op.operands]) (by kernel_rfl)
                  have f149 : a.tmps.getD 149 undef = .slice (some ⟨gb, 0, none⟩) 10 cp := e149
                  have g149 : a.tmps[149]?.getD undef = .slice (some ⟨gb, 0, none⟩) 10 cp := by rw [← Array.getD_eq_getD_getElem?]; exact e149
                  refine opU_val (C := fun w' => Below w.heap.size w w' ∧ (w'.cell? ⟨gb, 1, none⟩ = some (.int .i64 x1) ∧ w'.cell? ⟨gb, 2, none⟩ = some (.int .i64 x2) ∧ w'.cell? ⟨gb, 3, none⟩ = some (.int .i64 x3) ∧ w'.cell? ⟨gb, 4, none⟩ = some (.int .i64 x4) ∧ w'.cell? ⟨gb, 5, none⟩ = some (.int .i64 x5) ∧ w'.cell? ⟨gb, 7, none⟩ = some (.int .i64 x7) ∧ w'.cell? ⟨gb, 8, none⟩ = some (.int .i64 (N8 : Int))) ∧ (w'.heap[w.heap.size]? = some (.cells zeroC.cells.toArray 23 (0, 0)) ∨ w'.heap[w.heap.size]? = some (.cells #[.int .i64 x1, .int .i64 x2, .int .i64 x3, .int .i64 x4, .int .i64 x5, .int .i64 x7, .string ct, .string dd] 23 (0, 0)))) (St := fun x y => y.heap[w.heap.size]? = x.heap[w.heap.size]? ∨ y.heap[w.heap.size]? = some (.cells #[.int .i64 x1, .int .i64 x2, .int .i64 x3, .int .i64 x4, .int .i64 x5, .int .i64 x7, .string ct, .string dd] 23 (0, 0))) (V := fun dq vq _ => match dq with | 140 => vq = .slice (some ⟨gb, 0, none⟩) 10 cp | 141 => vq = .pointer (some ⟨gb, 1, none⟩) | 142 => vq = .int .i64 x1 | 143 => vq = .slice (some ⟨gb, 0, none⟩) 10 cp | 144 => vq = .pointer (some ⟨gb, 2, none⟩) | 145 => vq = .int .i64 x2 | 146 => vq = .slice (some ⟨gb, 0, none⟩) 10 cp | 147 => vq = .pointer (some ⟨gb, 3, none⟩) | 148 => vq = .int .i64 x3 | 149 => vq = .slice (some ⟨gb, 0, none⟩) 10 cp | 150 => vq = .pointer (some ⟨gb, 4, none⟩) | 151 => vq = .int .i64 x4 | 152 => vq = .slice (some ⟨gb, 0, none⟩) 10 cp | 153 => vq = .pointer (some ⟨gb, 5, none⟩) | 154 => vq = .int .i64 x5 | 155 => vq = .slice (some ⟨gb, 0, none⟩) 10 cp | 156 => vq = .pointer (some ⟨gb, 7, none⟩) | 157 => vq = .int .i64 x7 | 158 => vq = .string nm | 159 => vq = .slice (some ⟨gb, 0, none⟩) 10 cp | 160 => vq = .pointer (some ⟨gb, 8, none⟩) | 161 => vq = .int .i64 (N8 : Int) | 162 => vq = .int .i64 ((N8 : Int) - 1) | 163 => vq = .string ct | 164 => vq = .string s | 165 => vq = .int .i64 (p : Int) | 166 => vq = .slice (some ⟨gb, 0, none⟩) 10 cp | 167 => vq = .pointer (some ⟨gb, 8, none⟩) | 168 => vq = .int .i64 (N8 : Int) | 169 => vq = .int .i64 ((p : Int) + (N8 : Int)) | 170 => vq = .int .i64 ((p : Int) + (N8 : Int) + (N9 : Int)) | 171 => vq = .string dd | 172 => vq = .agg #[.int .i64 x1, .int .i64 x2, .int .i64 x3, .int .i64 x4, .int .i64 x5, .int .i64 x7, .string ct, .string dd] | 173 => vq = .int .i64 ((p : Int) + (N8 : Int) + (N9 : Int)) | 5 => vq = .int .i64 ((p : Int) + (N8 : Int) + (N9 : Int)) | 6 => vq = .int .i64 0 | _ => True) (U := fun o w' => o.dst = none → w'.heap[w.heap.size]? = some (.cells #[.int .i64 x1, .int .i64 x2, .int .i64 x3, .int .i64 x4, .int .i64 x5, .int .i64 x7, .string ct, .string dd] 23 (0, 0))) (w' := w2) (.pointer (some ⟨gb, 4, none⟩)) ?_ ?_ ?_ ?_ ?_
                  · (clear hV hI hC; go_simp <;> (first | rfl | simp | (rw [IntKind.wrap_i64]; omega)))
                  · exact hC
                  · exact Or.inl rfl
                  · intro d hd; cases hd; rfl
                  · intro h; cases h
                case o151 =>
                  intro Q a w2 hC hV hI
                  have e150 : a.eval (.tmp 150) = .pointer (some ⟨gb, 4, none⟩) := hV 150 (by simp [Op.operands]) (by kernel_rfl)
                  have f150 : a.tmps.getD 150 undef = .pointer (some ⟨gb, 4, none⟩) := e150
                  have g150 : a.tmps[150]?.getD undef = .pointer (some ⟨gb, 4, none⟩) := by rw [← Array.getD_eq_getD_getElem?]; exact e150
                  have hK := KC.out w2 hC.2.1
                  refine opU_val (C := fun w' => Below w.heap.size w w' ∧ (w'.cell? ⟨gb, 1, none⟩ = some (.int .i64 x1) ∧ w'.cell? ⟨gb, 2, none⟩ = some (.int .i64 x2) ∧ w'.cell? ⟨gb, 3, none⟩ = some (.int .i64 x3) ∧ w'.cell? ⟨gb, 4, none⟩ = some (.int .i64 x4) ∧ w'.cell? ⟨gb, 5, none⟩ = some (.int .i64 x5) ∧ w'.cell? ⟨gb, 7, none⟩ = some (.int .i64 x7) ∧ w'.cell? ⟨gb, 8, none⟩ = some (.int .i64 (N8 : Int))) ∧ (w'.heap[w.heap.size]? = some (.cells zeroC.cells.toArray 23 (0, 0)) ∨ w'.heap[w.heap.size]? = some (.cells #[.int .i64 x1, .int .i64 x2, .int .i64 x3, .int .i64 x4, .int .i64 x5, .int .i64 x7, .string ct, .string dd] 23 (0, 0)))) (St := fun x y => y.heap[w.heap.size]? = x.heap[w.heap.size]? ∨ y.heap[w.heap.size]? = some (.cells #[.int .i64 x1, .int .i64 x2, .int .i64 x3, .int .i64 x4, .int .i64 x5, .int .i64 x7, .string ct, .string dd] 23 (0, 0))) (V := fun dq vq _ => match dq with | 140 => vq = .slice (some ⟨gb, 0, none⟩) 10 cp | 141 => vq = .pointer (some ⟨gb, 1, none⟩) | 142 => vq = .int .i64 x1 | 143 => vq = .slice (some ⟨gb, 0, none⟩) 10 cp | 144 => vq = .pointer (some ⟨gb, 2, none⟩) | 145 => vq = .int .i64 x2 | 146 => vq = .slice (some ⟨gb, 0, none⟩) 10 cp | 147 => vq = .pointer (some ⟨gb, 3, none⟩) | 148 => vq = .int .i64 x3 | 149 => vq = .slice (some ⟨gb, 0, none⟩) 10 cp | 150 => vq = .pointer (some ⟨gb, 4, none⟩) | 151 => vq = .int .i64 x4 | 152 => vq = .slice (some ⟨gb, 0, none⟩) 10 cp | 153 => vq = .pointer (some ⟨gb, 5, none⟩) | 154 => vq = .int .i64 x5 | 155 => vq = .slice (some ⟨gb, 0, none⟩) 10 cp | 156 => vq = .pointer (some ⟨gb, 7, none⟩) | 157 => vq = .int .i64 x7 | 158 => vq = .string nm | 159 => vq = .slice (some ⟨gb, 0, none⟩) 10 cp | 160 => vq = .pointer (some ⟨gb, 8, none⟩) | 161 => vq = .int .i64 (N8 : Int) | 162 => vq = .int .i64 ((N8 : Int) - 1) | 163 => vq = .string ct | 164 => vq = .string s | 165 => vq = .int .i64 (p : Int) | 166 => vq = .slice (some ⟨gb, 0, none⟩) 10 cp | 167 => vq = .pointer (some ⟨gb, 8, none⟩) | 168 => vq = .int .i64 (N8 : Int) | 169 => vq = .int .i64 ((p : Int) + (N8 : Int)) | 170 => vq = .int .i64 ((p : Int) + (N8 : Int) + (N9 : Int)) | 171 => vq = .string dd | 172 => vq = .agg #[.int .i64 x1, .int .i64 x2, .int .i64 x3, .int .i64 x4, .int .i64 x5, .int .i64 x7, .string ct, .string dd] | 173 => vq = .int .i64 ((p : Int) + (N8 : Int) + (N9 : Int)) | 5 => vq = .int .i64 ((p : Int) + (N8 : Int) + (N9 : Int)) | 6 => vq = .int .i64 0 | _ => True) (U := fun o w' => o.dst = none → w'.heap[w.heap.size]? = some (.cells #[.int .i64 x1, .int .i64 x2, .int .i64 x3, .int .i64 x4, .int .i64 x5, .int .i64 x7, .string ct, .string dd] 23 (0, 0))) (w' := w2) (.int .i64 x4) ?_ ?_ ?_ ?_ ?_
                  · (clear hV hI hC; go_simp <;> (first | rfl | simp | (rw [IntKind.wrap_i64]; omega)))
                  · exact hC
                  · exact Or.inl rfl
                  · intro d hd; cases hd; rfl
                  · intro h; cases h
                case o152 =>
                  intro Q a w2 hC hV hI
                  have e7 : a.eval (.tmp 7) = .slice (some ⟨gb, 0, none⟩) 10 cp := (hI 7 (by simp [Op.operands]) (by kernel_rfl)).trans rfl
                  have f7 : a.tmps.getD 7 undef = .slice (some ⟨gb, 0, none⟩) 10 cp := e7
                  have g7 : a.tmps[7]?.getD undef = .slice (some ⟨gb, 0, none⟩) 10 cp := by rw [← Array.getD_eq_getD_getElem?]; exact e7
                  refine opU_val (C := fun w' => Below w.heap.size w w' ∧ (w'.cell? ⟨gb, 1, none⟩ = some (.int .i64 x1) ∧ w'.cell? ⟨gb, 2, none⟩ = some (.int .i64 x2) ∧ w'.cell? ⟨gb, 3, none⟩ = some (.int .i64 x3) ∧ w'.cell? ⟨gb, 4, none⟩ = some (.int .i64 x4) ∧ w'.cell? ⟨gb, 5, none⟩ = some (.int .i64 x5) ∧ w'.cell? ⟨gb, 7, none⟩ = some (.int .i64 x7) ∧ w'.cell? ⟨gb, 8, none⟩ = some (.int .i64 (N8 : Int))) ∧ (w'.heap[w.heap.size]? = some (.cells zeroC.cells.toArray 23 (0, 0)) ∨ w'.heap[w.heap.size]? = some (.cells #[.int .i64 x1, .int .i64 x2, .int .i64 x3, .int .i64 x4, .int .i64 x5, .int .i64 x7, .string ct, .string dd] 23 (0, 0)))) (St := fun x y => y.heap[w.heap.size]? = x.heap[w.heap.size]? ∨ y.heap[w.heap.size]? = some (.cells #[.int .i64 x1, .int .i64 x2, .int .i64 x3, .int .i64 x4, .int .i64 x5, .int .i64 x7, .string ct, .string dd] 23 (0, 0))) (V := fun dq vq _ => match dq with | 140 => vq = .slice (some ⟨gb, 0, none⟩) 10 cp | 141 => vq = .pointer (some ⟨gb, 1, none⟩) | 142 => vq = .int .i64 x1 | 143 => vq = .slice (some ⟨gb, 0, none⟩) 10 cp | 144 => vq = .pointer (some ⟨gb, 2, none⟩) | 145 => vq = .int .i64 x2 | 146 => vq = .slice (some ⟨gb, 0, none⟩) 10 cp | 147 => vq = .pointer (some ⟨gb, 3, none⟩) | 148 => vq = .int .i64 x3 | 149 => vq = .slice (some ⟨gb, 0, none⟩) 10 cp | 150 => vq = .pointer (some ⟨gb, 4, none⟩) | 151 => vq = .int .i64 x4 | 152 => vq = .slice (some ⟨gb, 0, none⟩) 10 cp | 153 => vq = .pointer (some ⟨gb, 5, none⟩) | 154 => vq = .int .i64 x5 | 155 => vq = .slice (some ⟨gb, 0, none⟩) 10 cp | 156 => vq = .pointer (some ⟨gb, 7, none⟩) | 157 => vq = .int .i64 x7 | 158 => vq = .string nm | 159 => vq = .slice (some ⟨gb, 0, none⟩) 10 cp | 160 => vq = .pointer (some ⟨gb, 8, none⟩) | 161 => vq = .int .i64 (N8 : Int) | 162 => vq = .int .i64 ((N8 : Int) - 1) | 163 => vq = .string ct | 164 => vq = .string s | 165 => vq = .int .i64 (p : Int) | 166 => vq = .slice (some ⟨gb, 0, none⟩) 10 cp | 167 => vq = .pointer (some ⟨gb, 8, none⟩) | 168 => vq = .int .i64 (N8 : Int) | 169 => vq = .int .i64 ((p : Int) + (N8 : Int)) | 170 => vq = .int .i64 ((p : Int) + (N8 : Int) + (N9 : Int)) | 171 => vq = .string dd | 172 => vq = .agg #[.int .i64 x1, .int .i64 x2, .int .i64 x3, .int .i64 x4, .int .i64 x5, .int .i64 x7, .string ct, .string dd] | 173 => vq = .int .i64 ((p : Int) + (N8 : Int) + (N9 : Int)) | 5 => vq = .int .i64 ((p : Int) + (N8 : Int) + (N9 : Int)) | 6 => vq = .int .i64 0 | _ => True) (U := fun o w' => o.dst = none → w'.heap[w.heap.size]? = some (.cells #[.int .i64 x1, .int .i64 x2, .int .i64 x3, .int .i64 x4, .int .i64 x5, .int .i64 x7, .string ct, .string dd] 23 (0, 0))) (w' := w2) (.slice (some ⟨gb, 0, none⟩) 10 cp) ?_ ?_ ?_ ?_ ?_
                  · (clear hV hI hC; go_simp <;> (first | rfl | simp | (rw [IntKind.wrap_i64]; omega)))
                  · exact hC
                  · exact Or.inl rfl
                  · intro d hd; cases hd; rfl
                  · intro h; cases h
                case o153 =>
                  intro Q a w2 hC hV hI
                  have e152 : a.eval (.tmp 152) = .slice (some ⟨gb, 0, none⟩) 10 cp := hV 152 (by simp [Op.operands]) (by kernel_rfl)
                  have f152 : a.tmps.getD 152 undef = .slice (some ⟨gb, 0, none⟩) 10 cp := e152
                  have g152 : a.tmps[152]?.getD undef = .slice (some ⟨gb, 0, none⟩) 10 cp := by rw [← Array.getD_eq_getD_getElem?]; exact e152
                  refine opU_val (C := fun w' => Below w.heap.size w w' ∧ (w'.cell? ⟨gb, 1, none⟩ = some (.int .i64 x1) ∧ w'.cell? ⟨gb, 2, none⟩ = some (.int .i64 x2) ∧ w'.cell? ⟨gb, 3, none⟩ = some (.int .i64 x3) ∧ w'.cell? ⟨gb, 4, none⟩ = some (.int .i64 x4) ∧ w'.cell? ⟨gb, 5, none⟩ = some (.int .i64 x5) ∧ w'.cell? ⟨gb, 7, none⟩ = some (.int .i64 x7) ∧ w'.cell? ⟨gb, 8, none⟩ = some (.int .i64 (N8 : Int))) ∧ (w'.heap[w.heap.size]? = some (.cells zeroC.cells.toArray 23 (0, 0)) ∨ w'.heap[w.heap.size]? = some (.cells #[.int .i64 x1, .int .i64 x2, .int .i64 x3, .int .i64 x4, .int .i64 x5, .int .i64 x7, .string ct, .string dd] 23 (0, 0)))) (St := fun x y => y.heap[w.heap.size]? = x.heap[w.heap.size]? ∨ y.heap[w.heap.size]? = some (.cells #[.int .i64 x1, .int .i64 x2, .int .i64 x3, .int .i64 x4, .int .i64 x5, .int .i64 x7, .string ct, .string dd] 23 (0, 0))) (V := fun dq vq _ => match dq with | 140 => vq = .slice (some ⟨gb, 0, none⟩) 10 cp | 141 => vq = .pointer (some ⟨gb, 1, none⟩) | 142 => vq = .int .i64 x1 | 143 => vq = .slice (some ⟨gb, 0, none⟩) 10 cp | 144 => vq = .pointer (some ⟨gb, 2, none⟩) | 145 => vq = .int .i64 x2 | 146 => vq = .slice (some ⟨gb, 0, none⟩) 10 cp | 147 => vq = .pointer (some ⟨gb, 3, none⟩) | 148 => vq = .int .i64 x3 | 149 => vq = .slice (some ⟨gb, 0, none⟩) 10 cp | 150 => vq = .pointer (some ⟨gb, 4, none⟩) | 151 => vq = .int .i64 x4 | 152 => vq = .slice (some ⟨gb, 0, none⟩) 10 cp | 153 => vq = .pointer (some ⟨gb, 5, none⟩) | 154 => vq = .int .i64 x5 | 155 => vq = .slice (some ⟨gb, 0, none⟩) 10 cp | 156 => vq = .pointer (some ⟨gb, 7, none⟩) | 157 => vq = .int .i64 x7 | 158 => vq = .string nm | 159 => vq = .slice (some ⟨gb, 0, none⟩) 10 cp | 160 => vq = .pointer (some ⟨gb, 8, none⟩) | 161 => vq = .int .i64 (N8 : Int) | 162 => vq = .int .i64 ((N8 : Int) - 1) | 163 => vq = .string ct | 164 => vq = .string s | 165 => vq = .int .i64 (p : Int) | 166 => vq = .slice (some ⟨gb, 0, none⟩) 10 cp | 167 => vq = .pointer (some ⟨gb, 8, none⟩) | 168 => vq = .int .i64 (N8 : Int) | 169 => vq = .int .i64 ((p : Int) + (N8 : Int)) | 170 => vq = .int .i64 ((p : Int) + (N8 : Int) + (N9 : Int)) | 171 => vq = .string dd | 172 => vq = .agg #[.int .i64 x1, .int .i64 x2, .int .i64 x3, .int .i64 x4, .int .i64 x5, .int .i64 x7, .string ct, .string dd] | 173 => vq = .int .i64 ((p : Int) + (N8 : Int) + (N9 : Int)) | 5 => vq = .int .i64 ((p : Int) + (N8 : Int) + (N9 : Int)) | 6 => vq = .int .i64 0 | _ => True) (U := fun o w' => o.dst = none → w'.heap[w.heap.size]? = some (.cells #[.int .i64 x1, .int .i64 x2, .int .i64 x3, .int .i64 x4, .int .i64 x5, .int .i64 x7, .string ct, .string dd] 23 (0, 0))) (w' := w2) (.pointer (some ⟨gb, 5, none⟩)) ?_ ?_ ?_ ?_ ?_
                  · (clear hV hI hC; go_simp <;> (first | rfl | simp | (rw [IntKind.wrap_i64]; omega)))
                  · exact hC
                  · exact Or.inl rfl
                  · intro d hd; cases hd; rfl
                  · intro h; cases h
                case o154 =>
                  intro Q a w2 hC hV hI
                  have e153 : a.eval (.tmp 153) = .pointer (some ⟨gb, 5, none⟩) := hV 153 (by simp [Op.operands]) (by kernel_rfl)
                  have f153 : a.tmps.getD 153 undef = .pointer (some ⟨gb, 5, none⟩) := e153
                  have g153 : a.tmps[153]?.getD undef = .pointer (some ⟨gb, 5, none⟩) := by rw [← Array.getD_eq_getD_getElem?]; exact e153
                  have hK := KC.out w2 hC.2.1
                  refine opU_val (C := fun w' => Below w.heap.size w w' ∧ (w'.cell? ⟨gb, 1, none⟩ = some (.int .i64 x1) ∧ w'.cell? ⟨gb, 2, none⟩ = some (.int .i64 x2) ∧ w'.cell? ⟨gb, 3, none⟩ = some (.int .i64 x3) ∧ w'.cell? ⟨gb, 4, none⟩ = some (.int .i64 x4) ∧ w'.cell? ⟨gb, 5, none⟩ = some (.int .i64 x5) ∧ w'.cell? ⟨gb, 7, none⟩ = some (.int .i64 x7) ∧ w'.cell? ⟨gb, 8, none⟩ = some (.int .i64 (N8 : Int))) ∧ (w'.heap[w.heap.size]? = some (.cells zeroC.cells.toArray 23 (0, 0)) ∨ w'.heap[w.heap.size]? = some (.cells #[.int .i64 x1, .int .i64 x2, .int .i64 x3, .int .i64 x4, .int .i64 x5, .int .i64 x7, .string ct, .string dd] 23 (0, 0)))) (St := fun x y => y.heap[w.heap.size]? = x.heap[w.heap.size]? ∨ y.heap[w.heap.size]? = some (.cells #[.int .i64 x1, .int .i64 x2, .int .i64 x3, .int .i64 x4, .int .i64 x5, .int .i64 x7, .string ct, .string dd] 23 (0, 0))) (V := fun dq vq _ => match dq with | 140 => vq = .slice (some ⟨gb, 0, none⟩) 10 cp | 141 => vq = .pointer (some ⟨gb, 1, none⟩) | 142 => vq = .int .i64 x1 | 143 => vq = .slice (some ⟨gb, 0, none⟩) 10 cp | 144 => vq = .pointer (some ⟨gb, 2, none⟩) | 145 => vq = .int .i64 x2 | 146 => vq = .slice (some ⟨gb, 0, none⟩) 10 cp | 147 => vq = .pointer (some ⟨gb, 3, none⟩) | 148 => vq = .int .i64 x3 | 149 => vq = .slice (some ⟨gb, 0, none⟩) 10 cp | 150 => vq = .pointer (some ⟨gb, 4, none⟩) | 151 => vq = .int .i64 x4 | 152 => vq = .slice (some ⟨gb, 0, none⟩) 10 cp | 153 => vq = .pointer (some ⟨gb, 5, none⟩) | 154 => vq = .int .i64 x5 | 155 => vq = .slice (some ⟨gb, 0, none⟩) 10 cp | 156 => vq = .pointer (some ⟨gb, 7, none⟩) | 157 => vq = .int .i64 x7 | 158 => vq = .string nm | 159 => vq = .slice (some ⟨gb, 0, none⟩) 10 cp | 160 => vq = .pointer (some ⟨gb, 8, none⟩) | 161 => vq = .int .i64 (N8 : Int) | 162 => vq = .int .i64 ((N8 : Int) - 1) | 163 => vq = .string ct | 164 => vq = .string s | 165 => vq = .int .i64 (p : Int) | 166 => vq = .slice (some ⟨gb, 0, none⟩) 10 cp | 167 => vq = .pointer (some ⟨gb, 8, none⟩) | 168 => vq = .int .i64 (N8 : Int) | 169 => vq = .int .i64 ((p : Int) + (N8 : Int)) | 170 => vq = .int .i64 ((p : Int) + (N8 : Int) + (N9 : Int)) | 171 => vq = .string dd | 172 => vq = .agg #[.int .i64 x1, .int .i64 x2, .int .i64 x3, .int .i64 x4, .int .i64 x5, .int .i64 x7, .string ct, .string dd] | 173 => vq = .int .i64 ((p : Int) + (N8 : Int) + (N9 : Int)) | 5 => vq = .int .i64 ((p : Int) + (N8 : Int) + (N9 : Int)) | 6 => vq = .int .i64 0 | _ => True) (U := fun o w' => o.dst = none → w'.heap[w.heap.size]? = some (.cells #[.int .i64 x1, .int .i64 x2, .int .i64 x3, .int .i64 x4, .int .i64 x5, .int .i64 x7, .string ct, .string dd] 23 (0, 0))) (w' := w2) (.int .i64 x5) ?_ ?_ ?_ ?_ ?_
                  · (clear hV hI hC; go_simp <;> (first | rfl | simp | (rw [IntKind.wrap_i64]; omega)))
                  · exact hC
                  · exact Or.inl rfl
                  · intro d hd; cases hd; rfl
                  · intro h; cases h
                case o155 =>
                  intro Q a w2 hC hV hI
                  have e7 : a.eval (.tmp 7) = .slice (some ⟨gb, 0, none⟩) 10 cp := (hI 7 (by simp [Op.operands]) (by kernel_rfl)).trans rfl
                  have f7 : a.tmps.getD 7 undef = .slice (some ⟨gb, 0, none⟩) 10 cp := e7
                  have g7 : a.tmps[7]?.getD undef = .slice (some ⟨gb, 0, none⟩) 10 cp := by rw [← Array.getD_eq_getD_getElem?]; exact e7
                  refine opU_val (C := fun w' => Below w.heap.size w w' ∧ (w'.cell? ⟨gb, 1, none⟩ = some (.int .i64 x1) ∧ w'.cell? ⟨gb, 2, none⟩ = some (.int .i64 x2) ∧ w'.cell? ⟨gb, 3, none⟩ = some (.int .i64 x3) ∧ w'.cell? ⟨gb, 4, none⟩ = some (.int .i64 x4) ∧ w'.cell? ⟨gb, 5, none⟩ = some (.int .i64 x5) ∧ w'.cell? ⟨gb, 7, none⟩ = some (.int .i64 x7) ∧ w'.cell? ⟨gb, 8, none⟩ = some (.int .i64 (N8 : Int))) ∧ (w'.heap[w.heap.size]? = some (.cells zeroC.cells.toArray 23 (0, 0)) ∨ w'.heap[w.heap.size]? = some (.cells #[.int .i64 x1, .int .i64 x2, .int .i64 x3, .int .i64 x4, .int .i64 x5, .int .i64 x7, .string ct, .string dd] 23 (0, 0)))) (St := fun x y => y.heap[w.heap.size]? = x.heap[w.heap.size]? ∨ y.heap[w.heap.size]? = some (.cells #[.int .i64 x1, .int .i64 x2, .int .i64 x3, .int .i64 x4, .int .i64 x5, .int .i64 x7, .string ct, .string dd] 23 (0, 0))) (V := fun dq vq _ => match dq with | 140 => vq = .slice (some ⟨gb, 0, none⟩) 10 cp | 141 => vq = .pointer (some ⟨gb, 1, none⟩) | 142 => vq = .int .i64 x1 | 143 => vq = .slice (some ⟨gb, 0, none⟩) 10 cp | 144 => vq = .pointer (some ⟨gb, 2, none⟩) | 145 => vq = .int .i64 x2 | 146 => vq = .slice (some ⟨gb, 0, none⟩) 10 cp | 147 => vq = .pointer (some ⟨gb, 3, none⟩) | 148 => vq = .int .i64 x3 | 149 => vq = .slice (some ⟨gb, 0, none⟩) 10 cp | 150 => vq = .pointer (some ⟨gb, 4, none⟩) | 151 => vq = .int .i64 x4 | 152 => vq = .slice (some ⟨gb, 0, none⟩) 10 cp | 153 => vq = .pointer (some ⟨gb, 5, none⟩) | 154 => vq = .int .i64 x5 | 155 => vq = .slice (some ⟨gb, 0, none⟩) 10 cp | 156 => vq = .pointer (some ⟨gb, 7, none⟩) | 157 => vq = .int .i64 x7 | 158 => vq = .string nm | 159 => vq = .slice (some ⟨gb, 0, none⟩) 10 cp | 160 => vq = .pointer (some ⟨gb, 8, none⟩) | 161 => vq = .int .i64 (N8 : Int) | 162 => vq = .int .i64 ((N8 : Int) - 1) | 163 => vq = .string ct | 164 => vq = .string s | 165 => vq = .int .i64 (p : Int) | 166 => vq = .slice (some ⟨gb, 0, none⟩) 10 cp | 167 => vq = .pointer (some ⟨gb, 8, none⟩) | 168 => vq = .int .i64 (N8 : Int) | 169 => vq = .int .i64 ((p : Int) + (N8 : Int)) | 170 => vq = .int .i64 ((p : Int) + (N8 : Int) + (N9 : Int)) | 171 => vq = .string dd | 172 => vq = .agg #[.int .i64 x1, .int .i64 x2, .int .i64 x3, .int .i64 x4, .int .i64 x5, .int .i64 x7, .string ct, .string dd] | 173 => vq = .int .i64 ((p : Int) + (N8 : Int) + (N9 : Int)) | 5 => vq = .int .i64 ((p : Int) + (N8 : Int) + (N9 : Int)) | 6 => vq = .int .i64 0 | _ => True) (U := fun o w' => o.dst = none → w'.heap[w.heap.size]? = some (.cells #[.int .i64 x1, .int .i64 x2, .int .i64 x3, .int .i64 x4, .int .i64 x5, .int .i64 x7, .string ct, .string dd] 23 (0, 0))) (w' := w2) (.slice (some ⟨gb, 0, none⟩) 10 cp) ?_ ?_ ?_ ?_ ?_
                  · (clear hV hI hC; go_simp <;> (first | rfl | simp | (rw [IntKind.wrap_i64]; omega)))
                  · exact hC
                  · exact Or.inl rfl
                  · intro d hd; cases hd; rfl
                  · intro h; cases h
                case o156 =>
                  intro Q a w2 hC hV hI
                  have e155 : a.eval (.tmp 155) = .slice (some ⟨gb, 0, none⟩) 10 cp := hV 155 (by simp [Op.operands]) (by kernel_rfl)
                  have f155 : a.tmps.getD 155 undef = .slice (some ⟨gb, 0, none⟩) 10 cp := e155
                  have g155 : a.tmps[155]?.getD undef = .slice (some ⟨gb, 0, none⟩) 10 cp := by rw [← Array.getD_eq_getD_getElem?]; exact e155
                  refine opU_val (C := fun w' => Below w.heap.size w w' ∧ (w'.cell? ⟨gb, 1, none⟩ = some (.int .i64 x1) ∧ w'.cell? ⟨gb, 2, none⟩ = some (.int .i64 x2) ∧ w'.cell? ⟨gb, 3, none⟩ = some (.int .i64 x3) ∧ w'.cell? ⟨gb, 4, none⟩ = some (.int .i64 x4) ∧ w'.cell? ⟨gb, 5, none⟩ = some (.int .i64 x5) ∧ w'.cell? ⟨gb, 7, none⟩ = some (.int .i64 x7) ∧ w'.cell? ⟨gb, 8, none⟩ = some (.int .i64 (N8 : Int))) ∧ (w'.heap[w.heap.size]? = some (.cells zeroC.cells.toArray 23 (0, 0)) ∨ w'.heap[w.heap.size]? = some (.cells #[.int .i64 x1, .int .i64 x2, .int .i64 x3, .int .i64 x4, .int .i64 x5, .int .i64 x7, .string ct, .string dd] 23 (0, 0)))) (St := fun x y => y.heap[w.heap.size]? = x.heap[w.heap.size]? ∨ y.heap[w.heap.size]? = some (.cells #[.int .i64 x1, .int .i64 x2, .int .i64 x3, .int .i64 x4, .int .i64 x5, .int .i64 x7, .string ct, .string dd] 23 (0, 0))) (V := fun dq vq _ => match dq with | 140 => vq = .slice (some ⟨gb, 0, none⟩) 10 cp | 141 => vq = .pointer (some ⟨gb, 1, none⟩) | 142 => vq = .int .i64 x1 | 143 => vq = .slice (some ⟨gb, 0, none⟩) 10 cp | 144 => vq = .pointer (some ⟨gb, 2, none⟩) | 145 => vq = .int .i64 x2 | 146 => vq = .slice (some ⟨gb, 0, none⟩) 10 cp | 147 => vq = .pointer (some ⟨gb, 3, none⟩) | 148 => vq = .int .i64 x3 | 149 => vq = .slice (some ⟨gb, 0, none⟩) 10 cp | 150 => vq = .pointer (some ⟨gb, 4, none⟩) | 151 => vq = .int .i64 x4 | 152 => vq = .slice (some ⟨gb, 0, none⟩) 10 cp | 153 => vq = .pointer (some ⟨gb, 5, none⟩) | 154 => vq = .int .i64 x5 | 155 => vq = .slice (some ⟨gb, 0, none⟩) 10 cp | 156 => vq = .pointer (some ⟨gb, 7, none⟩) | 157 => vq = .int .i64 x7 | 158 => vq = .string nm | 159 => vq = .slice (some ⟨gb, 0, none⟩) 10 cp | 160 => vq = .pointer (some ⟨gb, 8, none⟩) | 161 => vq = .int .i64 (N8 : Int) | 162 => vq = .int .i64 ((N8 : Int) - 1) | 163 => vq = .string ct | 164 => vq = .string s | 165 => vq = .int .i64 (p : Int) | 166 => vq = .slice (some ⟨gb, 0, none⟩) 10 cp | 167 => vq = .pointer (some ⟨gb, 8, none⟩) | 168 => vq = .int .i64 (N8 : Int) | 169 => vq = .int .i64 ((p : Int) + (N8 : Int)) | 170 => vq = .int .i64 ((p : Int) + (N8 : Int) + (N9 : Int)) | 171 => vq = .string dd | 172 => vq = .agg #[.int .i64 x1, .int .i64 x2, .int .i64 x3, .int .i64 x4, .int .i64 x5, .int .i64 x7, .string ct, .string dd] | 173 => vq = .int .i64 ((p : Int) + (N8 : Int) + (N9 : Int)) | 5 => vq = .int .i64 ((p : Int) + (N8 : Int) + (N9 : Int)) | 6 => vq = .int .i64 0 | _ => True) (U := fun o w' => o.dst = none → w'.heap[w.heap.size]? = some (.cells #[.int .i64 x1, .int .i64 x2, .int .i64 x3, .int .i64 x4, .int .i64 x5, .int .i64 x7, .string ct, .string dd] 23 (0, 0))) (w' := w2) (.pointer (some ⟨gb, 7, none⟩)) ?_ ?_ ?_ ?_ ?_
                  · (clear hV hI hC; go_simp <;> (first | rfl | simp | (rw [IntKind.wrap_i64]; omega)))
                  · exact hC
                  · exact Or.inl rfl
                  · intro d hd; cases hd; rfl
                  · intro h; cases h
                case o157 =>
                  intro Q a w2 hC hV hI
                  have e156 : a.eval (.tmp 156) = .pointer (some ⟨gb, 7, none⟩) := hV 156 (by simp [Op.operands]) (by kernel_rfl)
                  have f156 : a.tmps.getD 156 undef = .pointer (some ⟨gb, 7, none⟩) := e156
                  have g156 : a.tmps[156]?.getD undef = .pointer (some ⟨gb, 7, none⟩) := by rw [← Array.getD_eq_getD_getElem?]; exact e156
                  have hK := KC.out w2 hC.2.1
                  refine opU_val (C := fun w' => Below w.heap.size w w' ∧ (w'.cell? ⟨gb, 1, none⟩ = some (.int .i64 x1) ∧ w'.cell? ⟨gb, 2, none⟩ = some (.int .i64 x2) ∧ w'.cell? ⟨gb, 3, none⟩ = some (.int .i64 x3) ∧ w'.cell? ⟨gb, 4, none⟩ = some (.int .i64 x4) ∧ w'.cell? ⟨gb, 5, none⟩ = some (.int .i64 x5) ∧ w'.cell? ⟨gb, 7, none⟩ = some (.int .i64 x7) ∧ w'.cell? ⟨gb, 8, none⟩ = some (.int .i64 (N8 : Int))) ∧ (w'.heap[w.heap.size]? = some (.cells zeroC.cells.toArray 23 (0, 0)) ∨ w'.heap[w.heap.size]? = some (.cells #[.int .i64 x1, .int .i64 x2, .int .i64 x3, .int .i64 x4, .int .i64 x5, .int .i64 x7, .string ct, .string dd] 23 (0, 0)))) (St := fun x y => y.heap[w.heap.size]? = x.heap[w.heap.size]? ∨ y.heap[w.heap.size]? = some (.cells #[.int .i64 x1, .int .i64 x2, .int .i64 x3, .int .i64 x4, .int .i64 x5, .int .i64 x7, .string ct, .string dd] 23 (0, 0))) (V := fun dq vq _ => match dq with | 140 => vq = .slice (some ⟨gb, 0, none⟩) 10 cp | 141 => vq = .pointer (some ⟨gb, 1, none⟩) | 142 => vq = .int .i64 x1 | 143 => vq = .slice (some ⟨gb, 0, none⟩) 10 cp | 144 => vq = .pointer (some ⟨gb, 2, none⟩) | 145 => vq = .int .i64 x2 | 146 => vq = .slice (some ⟨gb, 0, none⟩) 10 cp | 147 => vq = .pointer (some ⟨gb, 3, none⟩) | 148 => vq = .int .i64 x3 | 149 => vq = .slice (some ⟨gb, 0, none⟩) 10 cp | 150 => vq = .pointer (some ⟨gb, 4, none⟩) | 151 => vq = .int .i64 x4 | 152 => vq = .slice (some ⟨gb, 0, none⟩) 10 cp | 153 => vq = .pointer (some ⟨gb, 5, none⟩) | 154 => vq = .int .i64 x5 | 155 => vq = .slice (some ⟨gb, 0, none⟩) 10 cp | 156 => vq = .pointer (some ⟨gb, 7, none⟩) | 157 => vq = .int .i64 x7 | 158 => vq = .string nm | 159 => vq = .slice (some ⟨gb, 0, none⟩) 10 cp | 160 => vq = .pointer (some ⟨gb, 8, none⟩) | 161 => vq = .int .i64 (N8 : Int) | 162 => vq = .int .i64 ((N8 : Int) - 1) | 163 => vq = .string ct | 164 => vq = .string s | 165 => vq = .int .i64 (p : Int) | 166 => vq = .slice (some ⟨gb, 0, none⟩) 10 cp | 167 => vq = .pointer (some ⟨gb, 8, none⟩) | 168 => vq = .int .i64 (N8 : Int) | 169 => vq = .int .i64 ((p : Int) + (N8 : Int)) | 170 => vq = .int .i64 ((p : Int) + (N8 : Int) + (N9 : Int)) | 171 => vq = .string dd | 172 => vq = .agg #[.int .i64 x1, .int .i64 x2, .int .i64 x3, .int .i64 x4, .int .i64 x5, .int .i64 x7, .string ct, .string dd] | 173 => vq = .int .i64 ((p : Int) + (N8 : Int) + (N9 : Int)) | 5 => vq = .int .i64 ((p : Int) + (N8 : Int) + (N9 : Int)) | 6 => vq = .int .i64 0 | _ => True) (U := fun o w' => o.dst = none → w'.heap[w.heap.size]? = some (.cells #[.int .i64 x1, .int .i64 x2, .int .i64 x3, .int .i64 x4, .int .i64 x5, .int .i64 x7, .string ct, .string dd] 23 (0, 0))) (w' := w2) (.int .i64 x7) ?_ ?_ ?_ ?_ ?_
                  · (clear hV hI hC; go_simp <;> (first | rfl | simp | (rw [IntKind.wrap_i64]; omega)))
                  · exact hC
                  · exact Or.inl rfl
                  · intro d hd; cases hd; rfl
                  · intro h; cases h
                case o158 =>
                  intro Q a w2 hC hV hI
                  have e13 : a.eval (.tmp 13) = .string nm := (hI 13 (by simp [Op.operands]) (by kernel_rfl)).trans rfl
                  have f13 : a.tmps.getD 13 undef = .string nm := e13
                  have g13 : a.tmps[13]?.getD undef = .string nm := by rw [← Array.getD_eq_getD_getElem?]; exact e13
                  refine opU_val (C := fun w' => Below w.heap.size w w' ∧ (w'.cell? ⟨gb, 1, none⟩ = some (.int .i64 x1) ∧ w'.cell? ⟨gb, 2, none⟩ = some (.int .i64 x2) ∧ w'.cell? ⟨gb, 3, none⟩ = some (.int .i64 x3) ∧ w'.cell? ⟨gb, 4, none⟩ = some (.int .i64 x4) ∧ w'.cell? ⟨gb, 5, none⟩ = some (.int .i64 x5) ∧ w'.cell? ⟨gb, 7, none⟩ = some (.int .i64 x7) ∧ w'.cell? ⟨gb, 8, none⟩ = some (.int .i64 (N8 : Int))) ∧ (w'.heap[w.heap.size]? = some (.cells zeroC.cells.toArray 23 (0, 0)) ∨ w'.heap[w.heap.size]? = some (.cells #[.int .i64 x1, .int .i64 x2, .int .i64 x3, .int .i64 x4, .int .i64 x5, .int .i64 x7, .string ct, .string dd] 23 (0, 0)))) (St := fun x y => y.heap[w.heap.size]? = x.heap[w.heap.size]? ∨ y.heap[w.heap.size]? = some (.cells #[.int .i64 x1, .int .i64 x2, .int .i64 x3, .int .i64 x4, .int .i64 x5, .int .i64 x7, .string ct, .string dd] 23 (0, 0))) (V := fun dq vq _ => match dq with | 140 => vq = .slice (some ⟨gb, 0, none⟩) 10 cp | 141 => vq = .pointer (some ⟨gb, 1, none⟩) | 142 => vq = .int .i64 x1 | 143 => vq = .slice (some ⟨gb, 0, none⟩) 10 cp | 144 => vq = .pointer (some ⟨gb, 2, none⟩) | 145 => vq = .int .i64 x2 | 146 => vq = .slice (some ⟨gb, 0, none⟩) 10 cp | 147 => vq = .pointer (some ⟨gb, 3, none⟩) | 148 => vq = .int .i64 x3 | 149 => vq = .slice (some ⟨gb, 0, none⟩) 10 cp | 150 => vq = .pointer (some ⟨gb, 4, none⟩) | 151 => vq = .int .i64 x4 | 152 => vq = .slice (some ⟨gb, 0, none⟩) 10 cp | 153 => vq = .pointer (some ⟨gb, 5, none⟩) | 154 => vq = .int .i64 x5 | 155 => vq = .slice (some ⟨gb, 0, none⟩) 10 cp | 156 => vq = .pointer (some ⟨gb, 7, none⟩) | 157 => vq = .int .i64 x7 | 158 => vq = .string nm | 159 => vq = .slice (some ⟨gb, 0, none⟩) 10 cp | 160 => vq = .pointer (some ⟨gb, 8, none⟩) | 161 => vq = .int .i64 (N8 : Int) | 162 => vq = .int .i64 ((N8 : Int) - 1) | 163 => vq = .string ct | 164 => vq = .string s | 165 => vq = .int .i64 (p : Int) | 166 => vq = .slice (some ⟨gb, 0, none⟩) 10 cp | 167 => vq = .pointer (some ⟨gb, 8, none⟩) | 168 => vq = .int .i64 (N8 : Int) | 169 => vq = .int .i64 ((p : Int) + (N8 : Int)) | 170 => vq = .int .i64 ((p : Int) + (N8 : Int) + (N9 : Int)) | 171 => vq = .string dd | 172 => vq = .agg #[.int .i64 x1, .int .i64 x2, .int .i64 x3, .int .i64 x4, .int .i64 x5, .int .i64 x7, .string ct, .string dd] | 173 => vq = .int .i64 ((p : Int) + (N8 : Int) + (N9 : Int)) | 5 => vq = .int .i64 ((p : Int) + (N8 : Int) + (N9 : Int)) | 6 => vq = .int .i64 0 | _ => True) (U := fun o w' => o.dst = none → w'.heap[w.heap.size]? = some (.cells #[.int .i64 x1, .int .i64 x2, .int .i64 x3, .int .i64 x4, .int .i64 x5, .int .i64 x7, .string ct, .string dd] 23 (0, 0))) (w' := w2) (.string nm) ?_ ?_ ?_ ?_ ?_
                  · (clear hV hI hC; go_simp <;> (first | rfl | simp | (rw [IntKind.wrap_i64]; omega)))
                  · exact hC
                  · exact Or.inl rfl
                  · intro d hd; cases hd; rfl
                  · intro h; cases h
                case o159 =>
                  intro Q a w2 hC hV hI
                  have e7 : a.eval (.tmp 7) = .slice (some ⟨gb, 0, none⟩) 10 cp := (hI 7 (by simp [Op.operands]) (by kernel_rfl)).trans rfl
                  have f7 : a.tmps.getD 7 undef = .slice (some ⟨gb, 0, none⟩) 10 cp := e7
                  have g7 : a.tmps[7]?.getD undef = .slice (some ⟨gb, 0, none⟩) 10 cp := by rw [← Array.getD_eq_getD_getElem?]; exact e7
                  refine opU_val (C := fun w' => Below w.heap.size w w' ∧ (w'.cell? ⟨gb, 1, none⟩ = some (.int .i64 x1) ∧ w'.cell? ⟨gb, 2, none⟩ = some (.int .i64 x2) ∧ w'.cell? ⟨gb, 3, none⟩ = some (.int .i64 x3) ∧ w'.cell? ⟨gb, 4, none⟩ = some (.int .i64 x4) ∧ w'.cell? ⟨gb, 5, none⟩ = some (.int .i64 x5) ∧ w'.cell? ⟨gb, 7, none⟩ = some (.int .i64 x7) ∧ w'.cell? ⟨gb, 8, none⟩ = some (.int .i64 (N8 : Int))) ∧ (w'.heap[w.heap.size]? = some (.cells zeroC.cells.toArray 23 (0, 0)) ∨ w'.heap[w.heap.size]? = some (.cells #[.int .i64 x1, .int .i64 x2, .int .i64 x3, .int .i64 x4, .int .i64 x5, .int .i64 x7, .string ct, .string dd] 23 (0, 0)))) (St := fun x y => y.heap[w.heap.size]? = x.heap[w.heap.size]? ∨ y.heap[w.heap.size]? = some (.cells #[.int .i64 x1, .int .i64 x2, .int .i64 x3, .int .i64 x4, .int .i64 x5, .int .i64 x7, .string ct, .string dd] 23 (0, 0))) (V := fun dq vq _ => match dq with | 140 => vq = .slice (some ⟨gb, 0, none⟩) 10 cp | 141 => vq = .pointer (some ⟨gb, 1, none⟩) | 142 => vq = .int .i64 x1 | 143 => vq = .slice (some ⟨gb, 0, none⟩) 10 cp | 144 => vq = .pointer (some ⟨gb, 2, none⟩) | 145 => vq = .int .i64 x2 | 146 => vq = .slice (some ⟨gb, 0, none⟩) 10 cp | 147 => vq = .pointer (some ⟨gb, 3, none⟩) | 148 => vq = .int .i64 x3 | 149 => vq = .slice (some ⟨gb, 0, none⟩) 10 cp | 150 => vq = .pointer (some ⟨gb, 4, none⟩) | 151 => vq = .int .i64 x4 | 152 => vq = .slice (some ⟨gb, 0, none⟩) 10 cp | 153 => vq = .pointer (some ⟨gb, 5, none⟩) | 154 => vq = .int .i64 x5 | 155 => vq = .slice (some ⟨gb, 0, none⟩) 10 cp | 156 => vq = .pointer (some ⟨gb, 7, none⟩) | 157 => vq = .int .i64 x7 | 158 => vq = .string nm | 159 => vq = .slice (some ⟨gb, 0, none⟩) 10 cp | 160 => vq = .pointer (some ⟨gb, 8, none⟩) | 161 => vq = .int .i64 (N8 : Int) | 162 => vq = .int .i64 ((N8 : Int) - 1) | 163 => vq = .string ct | 164 => vq = .string s | 165 => vq = .int .i64 (p : Int) | 166 => vq = .slice (some ⟨gb, 0, none⟩) 10 cp | 167 => vq = .pointer (some ⟨gb, 8, none⟩) | 168 => vq = .int .i64 (N8 : Int) | 169 => vq = .int .i64 ((p : Int) + (N8 : Int)) | 170 => vq = .int .i64 ((p : Int) + (N8 : Int) + (N9 : Int)) | 171 => vq = .string dd | 172 => vq = .agg #[.int .i64 x1, .int .i64 x2, .int .i64 x3, .int .i64 x4, .int .i64 x5, .int .i64 x7, .string ct, .string dd] | 173 => vq = .int .i64 ((p : Int) + (N8 : Int) + (N9 : Int)) | 5 => vq = .int .i64 ((p : Int) + (N8 : Int) + (N9 : Int)) | 6 => vq = .int .i64 0 | _ => True) (U := fun o w' => o.dst = none → w'.heap[w.heap.size]? = some (.cells #[.int .i64 x1, .int .i64 x2, .int .i64 x3, .int .i64 x4, .int .i64 x5, .int .i64 x7, .string ct, .string dd] 23 (0, 0))) (w' := w2) (.slice (some ⟨gb, 0, none⟩) 10 cp) ?_ ?_ ?_ ?_ ?_
                  · (clear hV hI hC; go_simp <;> (first | rfl | simp | (rw [IntKind.wrap_i64]; omega)))
                  · exact hC
                  · exact Or.inl rfl
                  · intro d hd; cases hd; rfl
                  · intro h; cases h
                case o160 =>
                  intro Q a w2 hC hV hI
                  have e159 : a.eval (.tmp 159) = .slice (some ⟨gb, 0, none⟩) 10 cp := hV 159 (by simp [Op.operands]) (by kernel_rfl)
                  have f159 : a.tmps.getD 159 undef = .slice (some ⟨gb, 0, none⟩) 10 cp := e159
                  have g159 : a.tmps[159]?.getD undef = .slice (some ⟨gb, 0, none⟩) 10 cp := by rw [← Array.getD_eq_getD_getElem?]; exact e159
                  refine opU_val (C := fun w' => Below w.heap.size w w' ∧ (w'.cell? ⟨gb, 1, none⟩ = some (.int .i64 x1) ∧ w'.cell? ⟨gb, 2, none⟩ = some (.int .i64 x2) ∧ w'.cell? ⟨gb, 3, none⟩ = some (.int .i64 x3) ∧ w'.cell? ⟨gb, 4, none⟩ = some (.int .i64 x4) ∧ w'.cell? ⟨gb, 5, none⟩ = some (.int .i64 x5) ∧ w'.cell? ⟨gb, 7, none⟩ = some (.int .i64 x7) ∧ w'.cell? ⟨gb, 8, none⟩ = some (.int .i64 (N8 : Int))) ∧ (w'.heap[w.heap.size]? = some (.cells zeroC.cells.toArray 23 (0, 0)) ∨ w'.heap[w.heap.size]? = some (.cells #[.int .i64 x1, .int .i64 x2, .int .i64 x3, .int .i64 x4, .int .i64 x5, .int .i64 x7, .string ct, .string dd] 23 (0, 0)))) (St := fun x y => y.heap[w.heap.size]? = x.heap[w.heap.size]? ∨ y.heap[w.heap.size]? = some (.cells #[.int .i64 x1, .int .i64 x2, .int .i64 x3, .int .i64 x4, .int .i64 x5, .int .i64 x7, .string ct, .string dd] 23 (0, 0))) (V := fun dq vq _ => match dq with | 140 => vq = .slice (some ⟨gb, 0, none⟩) 10 cp | 141 => vq = .pointer (some ⟨gb, 1, none⟩) | 142 => vq = .int .i64 x1 | 143 => vq = .slice (some ⟨gb, 0, none⟩) 10 cp | 144 => vq = .pointer (some ⟨gb, 2, none⟩) | 145 => vq = .int .i64 x2 | 146 => vq = .slice (some ⟨gb, 0, none⟩) 10 cp | 147 => vq = .pointer (some ⟨gb, 3, none⟩) | 148 => vq = .int .i64 x3 | 149 => vq = .slice (some ⟨gb, 0, none⟩) 10 cp | 150 => vq = .pointer (some ⟨gb, 4, none⟩) | 151 => vq = .int .i64 x4 | 152 => vq = .slice (some ⟨gb, 0, none⟩) 10 cp | 153 => vq = .pointer (some ⟨gb, 5, none⟩) | 154 => vq = .int .i64 x5 | 155 => vq = .slice (some ⟨gb, 0, none⟩) 10 cp | 156 => vq = .pointer (some ⟨gb, 7, none⟩) | 157 => vq = .int .i64 x7 | 158 => vq = .string nm | 159 => vq = .slice (some ⟨gb, 0, none⟩) 10 cp | 160 => vq = .pointer (some ⟨gb, 8, none⟩) | 161 => vq = .int .i64 (N8 : Int) | 162 => vq = .int .i64 ((N8 : Int) - 1) | 163 => vq = .string ct | 164 => vq = .string s | 165 => vq = .int .i64 (p : Int) | 166 => vq = .slice (some ⟨gb, 0, none⟩) 10 cp | 167 => vq = .pointer (some ⟨gb, 8, none⟩) | 168 => vq = .int .i64 (N8 : Int) | 169 => vq = .int .i64 ((p : Int) + (N8 : Int)) | 170 => vq = .int .i64 ((p : Int) + (N8 : Int) + (N9 : Int)) | 171 => vq = .string dd | 172 => vq = .agg #[.int .i64 x1, .int .i64 x2, .int .i64 x3, .int .i64 x4, .int .i64 x5, .int .i64 x7, .string ct, .string dd] | 173 => vq = .int .i64 ((p : Int) + (N8 : Int) + (N9 : Int)) | 5 => vq = .int .i64 ((p : Int) + (N8 : Int) + (N9 : Int)) | 6 => vq = .int .i64 0 | _ => True) (U := fun o w' => o.dst = none → w'.heap[w.heap.size]? = some (.cells #[.int .i64 x1, .int .i64 x2, .int .i64 x3, .int .i64 x4, .int .i64 x5, .int .i64 x7, .string ct, .string dd] 23 (0, 0))) (w' := w2) (.pointer (some ⟨gb, 8, none⟩)) ?_ ?_ ?_ ?_ ?_
                  · (clear hV hI hC; go_simp <;> (first | rfl | simp | (rw [IntKind.wrap_i64]; omega)))
                  · exact hC
                  · exact Or.inl rfl
                  · intro d hd; cases hd; rfl
                  · intro h; cases h
                case o161 =>
                  intro Q a w2 hC hV hI
                  have e160 : a.eval (.tmp 160) = .pointer (some ⟨gb, 8, none⟩) := hV 160 (by simp [Op.operands]) (by kernel_rfl)
                  have f160 : a.tmps.getD 160 undef = .pointer (some ⟨gb, 8, none⟩) := e160
                  have g160 : a.tmps[160]?.getD undef = .pointer (some ⟨gb, 8, none⟩) := by rw [← Array.getD_eq_getD_getElem?]; exact e160
                  have hK := KC.out w2 hC.2.1
                  refine opU_val (C := fun w' => Below w.heap.size w w' ∧ (w'.cell? ⟨gb, 1, none⟩ = some (.int .i64 x1) ∧ w'.cell? ⟨gb, 2, none⟩ = some (.int .i64 x2) ∧ w'.cell? ⟨gb, 3, none⟩ = some (.int .i64 x3) ∧ w'.cell? ⟨gb, 4, none⟩ = some (.int .i64 x4) ∧ w'.cell? ⟨gb, 5, none⟩ = some (.int .i64 x5) ∧ w'.cell? ⟨gb, 7, none⟩ = some (.int .i64 x7) ∧ w'.cell? ⟨gb, 8, none⟩ = some (.int .i64 (N8 : Int))) ∧ (w'.heap[w.heap.size]? = some (.cells zeroC.cells.toArray 23 (0, 0)) ∨ w'.heap[w.heap.size]? = some (.cells #[.int .i64 x1, .int .i64 x2, .int .i64 x3, .int .i64 x4, .int .i64 x5, .int .i64 x7, .string ct, .string dd] 23 (0, 0)))) (St := fun x y => y.heap[w.heap.size]? = x.heap[w.heap.size]? ∨ y.heap[w.heap.size]? = some (.cells #[.int .i64 x1, .int .i64 x2, .int .i64 x3, .int .i64 x4, .int .i64 x5, .int .i64 x7, .string ct, .string dd] 23 (0, 0))) (V := fun dq vq _ => match dq with | 140 => vq = .slice (some ⟨gb, 0, none⟩) 10 cp | 141 => vq = .pointer (some ⟨gb, 1, none⟩) | 142 => vq = .int .i64 x1 | 143 => vq = .slice (some ⟨gb, 0, none⟩) 10 cp | 144 => vq = .pointer (some ⟨gb, 2, none⟩) | 145 => vq = .int .i64 x2 | 146 => vq = .slice (some ⟨gb, 0, none⟩) 10 cp | 147 => vq = .pointer (some ⟨gb, 3, none⟩) | 148 => vq = .int .i64 x3 | 149 => vq = .slice (some ⟨gb, 0, none⟩) 10 cp | 150 => vq = .pointer (some ⟨gb, 4, none⟩) | 151 => vq = .int .i64 x4 | 152 => vq = .slice (some ⟨gb, 0, none⟩) 10 cp | 153 => vq = .pointer (some ⟨gb, 5, none⟩) | 154 => vq = .int .i64 x5 | 155 => vq = .slice (some ⟨gb, 0, none⟩) 10 cp | 156 => vq = .pointer (some ⟨gb, 7, none⟩) | 157 => vq = .int .i64 x7 | 158 => vq = .string nm | 159 => vq = .slice (some ⟨gb, 0, none⟩) 10 cp | 160 => vq = .pointer (some ⟨gb, 8, none⟩) | 161 => vq = .int .i64 (N8 : Int) | 162 => vq = .int .i64 ((N8 : Int) - 1) | 163 => vq = .string ct | 164 => vq = .string s | 165 => vq = .int .i64 (p : Int) | 166 => vq = .slice (some ⟨gb, 0, none⟩) 10 cp | 167 => vq = .pointer (some ⟨gb, 8, none⟩) | 168 => vq = .int .i64 (N8 : Int) | 169 => vq = .int .i64 ((p : Int) + (N8 : Int)) | 170 => vq = .int .i64 ((p : Int) + (N8 : Int) + (N9 : Int)) | 171 => vq = .string dd | 172 => vq = .agg #[.int .i64 x1, .int .i64 x2, .int .i64 x3, .int .i64 x4, .int .i64 x5, .int .i64 x7, .string ct, .string dd] | 173 => vq = .int .i64 ((p : Int) + (N8 : Int) + (N9 : Int)) | 5 => vq = .int .i64 ((p : Int) + (N8 : Int) + (N9 : Int)) | 6 => vq = .int .i64 0 | _ => True) (U := fun o w' => o.dst = none → w'.heap[w.heap.size]? = some (.cells #[.int .i64 x1, .int .i64 x2, .int .i64 x3, .int .i64 x4, .int .i64 x5, .int .i64 x7, .string ct, .string dd] 23 (0, 0))) (w' := w2) (.int .i64 (N8 : Int)) ?_ ?_ ?_ ?_ ?_
                  · (clear hV hI hC; go_simp <;> (first | rfl | simp | (rw [IntKind.wrap_i64]; omega)))
                  · exact hC
                  · exact Or.inl rfl
                  · intro d hd; cases hd; rfl
                  · intro h; cases h
                case o162 =>
                  intro Q a w2 hC hV hI
                  have e161 : a.eval (.tmp 161) = .int .i64 (N8 : Int) := hV 161 (by simp [Op.operands]) (by kernel_rfl)
                  have f161 : a.tmps.getD 161 undef = .int .i64 (N8 : Int) := e161
                  have g161 : a.tmps[161]?.getD undef = .int .i64 (N8 : Int) := by rw [← Array.getD_eq_getD_getElem?]; exact e161
                  refine opU_val (C := fun w' => Below w.heap.size w w' ∧ (w'.cell? ⟨gb, 1, none⟩ = some (.int .i64 x1) ∧ w'.cell? ⟨gb, 2, none⟩ = some (.int .i64 x2) ∧ w'.cell? ⟨gb, 3, none⟩ = some (.int .i64 x3) ∧ w'.cell? ⟨gb, 4, none⟩ = some (.int .i64 x4) ∧ w'.cell? ⟨gb, 5, none⟩ = some (.int .i64 x5) ∧ w'.cell? ⟨gb, 7, none⟩ = some (.int .i64 x7) ∧ w'.cell? ⟨gb, 8, none⟩ = some (.int .i64 (N8 : Int))) ∧ (w'.heap[w.heap.size]? = some (.cells zeroC.cells.toArray 23 (0, 0)) ∨ w'.heap[w.heap.size]? = some (.cells #[.int .i64 x1, .int .i64 x2, .int .i64 x3, .int .i64 x4, .int .i64 x5, .int .i64 x7, .string ct, .string dd] 23 (0, 0)))) (St := fun x y => y.heap[w.heap.size]? = x.heap[w.heap.size]? ∨ y.heap[w.heap.size]? = some (.cells #[.int .i64 x1, .int .i64 x2, .int .i64 x3, .int .i64 x4, .int .i64 x5, .int .i64 x7, .string ct, .string dd] 23 (0, 0))) (V := fun dq vq _ => match dq with | 140 => vq = .slice (some ⟨gb, 0, none⟩) 10 cp | 141 => vq = .pointer (some ⟨gb, 1, none⟩) | 142 => vq = .int .i64 x1 | 143 => vq = .slice (some ⟨gb, 0, none⟩) 10 cp | 144 => vq = .pointer (some ⟨gb, 2, none⟩) | 145 => vq = .int .i64 x2 | 146 => vq = .slice (some ⟨gb, 0, none⟩) 10 cp | 147 => vq = .pointer (some ⟨gb, 3, none⟩) | 148 => vq = .int .i64 x3 | 149 => vq = .slice (some ⟨gb, 0, none⟩) 10 cp | 150 => vq = .pointer (some ⟨gb, 4, none⟩) | 151 => vq = .int .i64 x4 | 152 => vq = .slice (some ⟨gb, 0, none⟩) 10 cp | 153 => vq = .pointer (some ⟨gb, 5, none⟩) | 154 => vq = .int .i64 x5 | 155 => vq = .slice (some ⟨gb, 0, none⟩) 10 cp | 156 => vq = .pointer (some ⟨gb, 7, none⟩) | 157 => vq = .int .i64 x7 | 158 => vq = .string nm | 159 => vq = .slice (some ⟨gb, 0, none⟩) 10 cp | 160 => vq = .pointer (some ⟨gb, 8, none⟩) | 161 => vq = .int .i64 (N8 : Int) | 162 => vq = .int .i64 ((N8 : Int) - 1) | 163 => vq = .string ct | 164 => vq = .string s | 165 => vq = .int .i64 (p : Int) | 166 => vq = .slice (some ⟨gb, 0, none⟩) 10 cp | 167 => vq = .pointer (some ⟨gb, 8, none⟩) | 168 => vq = .int .i64 (N8 : Int) | 169 => vq = .int .i64 ((p : Int) + (N8 : Int)) | 170 => vq = .int .i64 ((p : Int) + (N8 : Int) + (N9 : Int)) | 171 => vq = .string dd | 172 => vq = .agg #[.int .i64 x1, .int .i64 x2, .int .i64 x3, .int .i64 x4, .int .i64 x5, .int .i64 x7, .string ct, .string dd] | 173 => vq = .int .i64 ((p : Int) + (N8 : Int) + (N9 : Int)) | 5 => vq = .int .i64 ((p : Int) + (N8 : Int) + (N9 : Int)) | 6 => vq = .int .i64 0 | _ => True) (U := fun o w' => o.dst = none → w'.heap[w.heap.size]? = some (.cells #[.int .i64 x1, .int .i64 x2, .int .i64 x3, .int .i64 x4, .int .i64 x5, .int .i64 x7, .string ct, .string dd] 23 (0, 0))) (w' := w2) (.int .i64 ((N8 : Int) - 1)) ?_ ?_ ?_ ?_ ?_
                  · (clear hV hI hC; go_simp <;> (first | rfl | simp | (rw [IntKind.wrap_i64]; omega)))
                  · exact hC
                  · exact Or.inl rfl
                  · intro d hd; cases hd; rfl
                  · intro h; cases h
                case o163 =>
                  intro Q a w2 hC hV hI
                  have e158 : a.eval (.tmp 158) = .string nm := hV 158 (by simp [Op.operands]) (by kernel_rfl)
                  have f158 : a.tmps.getD 158 undef = .string nm := e158
                  have g158 : a.tmps[158]?.getD undef = .string nm := by rw [← Array.getD_eq_getD_getElem?]; exact e158
                  have e162 : a.eval (.tmp 162) = .int .i64 ((N8 : Int) - 1) := hV 162 (by simp [Op.operands]) (by kernel_rfl)
                  have f162 : a.tmps.getD 162 undef = .int .i64 ((N8 : Int) - 1) := e162
                  have g162 : a.tmps[162]?.getD undef = .int .i64 ((N8 : Int) - 1) := by rw [← Array.getD_eq_getD_getElem?]; exact e162
                  have q9 := HSc.out w2
                  refine opU_val (C := fun w' => Below w.heap.size w w' ∧ (w'.cell? ⟨gb, 1, none⟩ = some (.int .i64 x1) ∧ w'.cell? ⟨gb, 2, none⟩ = some (.int .i64 x2) ∧ w'.cell? ⟨gb, 3, none⟩ = some (.int .i64 x3) ∧ w'.cell? ⟨gb, 4, none⟩ = some (.int .i64 x4) ∧ w'.cell? ⟨gb, 5, none⟩ = some (.int .i64 x5) ∧ w'.cell? ⟨gb, 7, none⟩ = some (.int .i64 x7) ∧ w'.cell? ⟨gb, 8, none⟩ = some (.int .i64 (N8 : Int))) ∧ (w'.heap[w.heap.size]? = some (.cells zeroC.cells.toArray 23 (0, 0)) ∨ w'.heap[w.heap.size]? = some (.cells #[.int .i64 x1, .int .i64 x2, .int .i64 x3, .int .i64 x4, .int .i64 x5, .int .i64 x7, .string ct, .string dd] 23 (0, 0)))) (St := fun x y => y.heap[w.heap.size]? = x.heap[w.heap.size]? ∨ y.heap[w.heap.size]? = some (.cells #[.int .i64 x1, .int .i64 x2, .int .i64 x3, .int .i64 x4, .int .i64 x5, .int .i64 x7, .string ct, .string dd] 23 (0, 0))) (V := fun dq vq _ => match dq with | 140 => vq = .slice (some ⟨gb, 0, none⟩) 10 cp | 141 => vq = .pointer (some ⟨gb, 1, none⟩) | 142 => vq = .int .i64 x1 | 143 => vq = .slice (some ⟨gb, 0, none⟩) 10 cp | 144 => vq = .pointer (some ⟨gb, 2, none⟩) | 145 => vq = .int .i64 x2 | 146 => vq = .slice (some ⟨gb, 0, none⟩) 10 cp | 147 => vq = .pointer (some ⟨gb, 3, none⟩) | 148 => vq = .int .i64 x3 | 149 => vq = .slice (some ⟨gb, 0, none⟩) 10 cp | 150 => vq = .pointer (some ⟨gb, 4, none⟩) | 151 => vq = .int .i64 x4 | 152 => vq = .slice (some ⟨gb, 0, none⟩) 10 cp | 153 => vq = .pointer (some ⟨gb, 5, none⟩) | 154 => vq = .int .i64 x5 | 155 => vq = .slice (some ⟨gb, 0, none⟩) 10 cp | 156 => vq = .pointer (some ⟨gb, 7, none⟩) | 157 => vq = .int .i64 x7 | 158 => vq = .string nm | 159 => vq = .slice (some ⟨gb, 0, none⟩) 10 cp | 160 => vq = .pointer (some ⟨gb, 8, none⟩) | 161 => vq = .int .i64 (N8 : Int) | 162 => vq = .int .i64 ((N8 : Int) - 1) | 163 => vq = .string ct | 164 => vq = .string s | 165 => vq = .int .i64 (p : Int) | 166 => vq = .slice (some ⟨gb, 0, none⟩) 10 cp | 167 => vq = .pointer (some ⟨gb, 8, none⟩) | 168 => vq = .int .i64 (N8 : Int) | 169 => vq = .int .i64 ((p : Int) + (N8 : Int)) | 170 => vq = .int .i64 ((p : Int) + (N8 : Int) + (N9 : Int)) | 171 => vq = .string dd | 172 => vq = .agg #[.int .i64 x1, .int .i64 x2, .int .i64 x3, .int .i64 x4, .int .i64 x5, .int .i64 x7, .string ct, .string dd] | 173 => vq = .int .i64 ((p : Int) + (N8 : Int) + (N9 : Int)) | 5 => vq = .int .i64 ((p : Int) + (N8 : Int) + (N9 : Int)) | 6 => vq = .int .i64 0 | _ => True) (U := fun o w' => o.dst = none → w'.heap[w.heap.size]? = some (.cells #[.int .i64 x1, .int .i64 x2, .int .i64 x3, .int .i64 x4, .int .i64 x5, .int .i64 x7, .string ct, .string dd] 23 (0, 0))) (w' := w2) (.string ct) ?_ ?_ ?_ ?_ ?_
                  · (clear hV hI hC; go_simp <;> (first | rfl | simp | (rw [IntKind.wrap_i64]; omega)))
                  · exact hC
                  · exact Or.inl rfl
                  · intro d hd; cases hd; rfl
                  · intro h; cases h
                case o164 =>
                  intro Q a w2 hC hV hI
                  have e0 : a.eval (.tmp 0) = .string s := (hI 0 (by simp [Op.operands]) (by kernel_rfl)).trans rfl
                  have f0 : a.tmps.getD 0 undef = .string s := e0
                  have g0 : a.tmps[0]?.getD undef = .string s := by rw [← Array.getD_eq_getD_getElem?]; exact e0
                  refine opU_val (C := fun w' => Below w.heap.size w w' ∧ (w'.cell? ⟨gb, 1, none⟩ = some (.int .i64 x1) ∧ w'.cell? ⟨gb, 2, none⟩ = some (.int .i64 x2) ∧ w'.cell? ⟨gb, 3, none⟩ = some (.int .i64 x3) ∧ w'.cell? ⟨gb, 4, none⟩ = some (.int .i64 x4) ∧ w'.cell? ⟨gb, 5, none⟩ = some (.int .i64 x5) ∧ w'.cell? ⟨gb, 7, none⟩ = some (.int .i64 x7) ∧ w'.cell? ⟨gb, 8, none⟩ = some (.int .i64 (N8 : Int))) ∧ (w'.heap[w.heap.size]? = some (.cells zeroC.cells.toArray 23 (0, 0)) ∨ w'.heap[w.heap.size]? = some (.cells #[.int .i64 x1, .int .i64 x2, .int .i64 x3, .int .i64 x4, .int .i64 x5, .int .i64 x7, .string ct, .string dd] 23 (0, 0)))) (St := fun x y => y.heap[w.heap.size]? = x.heap[w.heap.size]? ∨ y.heap[w.heap.size]? = some (.cells #[.int .i64 x1, .int .i64 x2, .int .i64 x3, .int .i64 x4, .int .i64 x5, .int .i64 x7, .string ct, .string dd] 23 (0, 0))) (V := fun dq vq _ => match dq with | 140 => vq = .slice (some ⟨gb, 0, none⟩) 10 cp | 141 => vq = .pointer (some ⟨gb, 1, none⟩) | 142 => vq = .int .i64 x1 | 143 => vq = .slice (some ⟨gb, 0, none⟩) 10 cp | 144 => vq = .pointer (some ⟨gb, 2, none⟩) | 145 => vq = .int .i64 x2 | 146 => vq = .slice (some ⟨gb, 0, none⟩) 10 cp | 147 => vq = .pointer (some ⟨gb, 3, none⟩) | 148 => vq = .int .i64 x3 | 149 => vq = .slice (some ⟨gb, 0, none⟩) 10 cp | 150 => vq = .pointer (some ⟨gb, 4, none⟩) | 151 => vq = .int .i64 x4 | 152 => vq = .slice (some ⟨gb, 0, none⟩) 10 cp | 153 => vq = .pointer (some ⟨gb, 5, none⟩) | 154 => vq = .int .i64 x5 | 155 => vq = .slice (some ⟨gb, 0, none⟩) 10 cp | 156 => vq = .pointer (some ⟨gb, 7, none⟩) | 157 => vq = .int .i64 x7 | 158 => vq = .string nm | 159 => vq = .slice (some ⟨gb, 0, none⟩) 10 cp | 160 => vq = .pointer (some ⟨gb, 8, none⟩) | 161 => vq = .int .i64 (N8 : Int) | 162 => vq = .int .i64 ((N8 : Int) - 1) | 163 => vq = .string ct | 164 => vq = .string s | 165 => vq = .int .i64 (p : Int) | 166 => vq = .slice (some ⟨gb, 0, none⟩) 10 cp | 167 => vq = .pointer (some ⟨gb, 8, none⟩) | 168 => vq = .int .i64 (N8 : Int) | 169 => vq = .int .i64 ((p : Int) + (N8 : Int)) | 170 => vq = .int .i64 ((p : Int) + (N8 : Int) + (N9 : Int)) | 171 => vq = .string dd | 172 => vq = .agg #[.int .i64 x1, .int .i64 x2, .int .i64 x3, .int .i64 x4, .int .i64 x5, .int .i64 x7, .string ct, .string dd] | 173 => vq = .int .i64 ((p : Int) + (N8 : Int) + (N9 : Int)) | 5 => vq = .int .i64 ((p : Int) + (N8 : Int) + (N9 : Int)) | 6 => vq = .int .i64 0 | _ => True) (U := fun o w' => o.dst = none → w'.heap[w.heap.size]? = some (.cells #[.int .i64 x1, .int .i64 x2, .int .i64 x3, .int .i64 x4, .int .i64 x5, .int .i64 x7, .string ct, .string dd] 23 (0, 0))) (w' := w2) (.string s) ?_ ?_ ?_ ?_ ?_
                  · (clear hV hI hC; go_simp <;> (first | rfl | simp | (rw [IntKind.wrap_i64]; omega)))
                  · exact hC
                  · exact Or.inl rfl
                  · intro d hd; cases hd; rfl
                  · intro h; cases h
                case o165 =>
                  intro Q a w2 hC hV hI
                  have e8 : a.eval (.tmp 8) = .int .i64 (p : Int) := (hI 8 (by simp [Op.operands]) (by kernel_rfl)).trans rfl
                  have f8 : a.tmps.getD 8 undef = .int .i64 (p : Int) := e8
                  have g8 : a.tmps[8]?.getD undef = .int .i64 (p : Int) := by rw [← Array.getD_eq_getD_getElem?]; exact e8
                  refine opU_val (C := fun w' => Below w.heap.size w w' ∧ (w'.cell? ⟨gb, 1, none⟩ = some (.int .i64 x1) ∧ w'.cell? ⟨gb, 2, none⟩ = some (.int .i64 x2) ∧ w'.cell? ⟨gb, 3, none⟩ = some (.int .i64 x3) ∧ w'.cell? ⟨gb, 4, none⟩ = some (.int .i64 x4) ∧ w'.cell? ⟨gb, 5, none⟩ = some (.int .i64 x5) ∧ w'.cell? ⟨gb, 7, none⟩ = some (.int .i64 x7) ∧ w'.cell? ⟨gb, 8, none⟩ = some (.int .i64 (N8 : Int))) ∧ (w'.heap[w.heap.size]? = some (.cells zeroC.cells.toArray 23 (0, 0)) ∨ w'.heap[w.heap.size]? = some (.cells #[.int .i64 x1, .int .i64 x2, .int .i64 x3, .int .i64 x4, .int .i64 x5, .int .i64 x7, .string ct, .string dd] 23 (0, 0)))) (St := fun x y => y.heap[w.heap.size]? = x.heap[w.heap.size]? ∨ y.heap[w.heap.size]? = some (.cells #[.int .i64 x1, .int .i64 x2, .int .i64 x3, .int .i64 x4, .int .i64 x5, .int .i64 x7, .string ct, .string dd] 23 (0, 0))) (V := fun dq vq _ => match dq with | 140 => vq = .slice (some ⟨gb, 0, none⟩) 10 cp | 141 => vq = .pointer (some ⟨gb, 1, none⟩) | 142 => vq = .int .i64 x1 | 143 => vq = .slice (some ⟨gb, 0, none⟩) 10 cp | 144 => vq = .pointer (some ⟨gb, 2, none⟩) | 145 => vq = .int .i64 x2 | 146 => vq = .slice (some ⟨gb, 0, none⟩) 10 cp | 147 => vq = .pointer (some ⟨gb, 3, none⟩) | 148 => vq = .int .i64 x3 | 149 => vq = .slice (some ⟨gb, 0, none⟩) 10 cp | 150 => vq = .pointer (some ⟨gb, 4, none⟩) | 151 => vq = .int .i64 x4 | 152 => vq = .slice (some ⟨gb, 0, none⟩) 10 cp | 153 => vq = .pointer (some ⟨gb, 5, none⟩) | 154 => vq = .int .i64 x5 | 155 => vq = .slice (some ⟨gb, 0, none⟩) 10 cp | 156 => vq = .pointer (some ⟨gb, 7, none⟩) | 157 => vq = .int .i64 x7 | 158 => vq = .string nm | 159 => vq = .slice (some ⟨gb, 0, none⟩) 10 cp | 160 => vq = .pointer (some ⟨gb, 8, none⟩) | 161 => vq = .int .i64 (N8 : Int) | 162 => vq = .int .i64 ((N8 : Int) - 1) | 163 => vq = .string ct | 164 => vq = .string s | 165 => vq = .int .i64 (p : Int) | 166 => vq = .slice (some ⟨gb, 0, none⟩) 10 cp | 167 => vq = .pointer (some ⟨gb, 8, none⟩) | 168 => vq = .int .i64 (N8 : Int) | 169 => vq = .int .i64 ((p : Int) + (N8 : Int)) | 170 => vq = .int .i64 ((p : Int) + (N8 : Int) + (N9 : Int)) | 171 => vq = .string dd | 172 => vq = .agg #[.int .i64 x1, .int .i64 x2, .int .i64 x3, .int .i64 x4, .int .i64 x5, .int .i64 x7, .string ct, .string dd] | 173 => vq = .int .i64 ((p : Int) + (N8 : Int) + (N9 : Int)) | 5 => vq = .int .i64 ((p : Int) + (N8 : Int) + (N9 : Int)) | 6 => vq = .int .i64 0 | _ => True) (U := fun o w' => o.dst = none → w'.heap[w.heap.size]? = some (.cells #[.int .i64 x1, .int .i64 x2, .int .i64 x3, .int .i64 x4, .int .i64 x5, .int .i64 x7, .string ct, .string dd] 23 (0, 0))) (w' := w2) (.int .i64 (p : Int)) ?_ ?_ ?_ ?_ ?_
                  · (clear hV hI hC; go_simp <;> (first | rfl | simp | (rw [IntKind.wrap_i64]; omega)))
                  · exact hC
                  · exact Or.inl rfl
                  · intro d hd; cases hd; rfl
                  · intro h; cases h
                case o166 =>
                  intro Q a w2 hC hV hI
                  have e7 : a.eval (.tmp 7) = .slice (some ⟨gb, 0, none⟩) 10 cp := (hI 7 (by simp [Op.operands]) (by kernel_rfl)).trans rfl
                  have f7 : a.tmps.getD 7 undef = .slice (some ⟨gb, 0, none⟩) 10 cp := e7
                  have g7 : a.tmps[7]?.getD undef = .slice (some ⟨gb, 0, none⟩) 10 cp := by rw [← Array.getD_eq_getD_getElem?]; exact e7
                  refine opU_val (C := fun w' => Below w.heap.size w w' ∧ (w'.cell? ⟨gb, 1, none⟩ = some (.int .i64 x1) ∧ w'.cell? ⟨gb, 2, none⟩ = some (.int .i64 x2) ∧ w'.cell? ⟨gb, 3, none⟩ = some (.int .i64 x3) ∧ w'.cell? ⟨gb, 4, none⟩ = some (.int .i64 x4) ∧ w'.cell? ⟨gb, 5, none⟩ = some (.int .i64 x5) ∧ w'.cell? ⟨gb, 7, none⟩ = some (.int .i64 x7) ∧ w'.cell? ⟨gb, 8, none⟩ = some (.int .i64 (N8 : Int))) ∧ (w'.heap[w.heap.size]? = some (.cells zeroC.cells.toArray 23 (0, 0)) ∨ w'.heap[w.heap.size]? = some (.cells #[.int .i64 x1, .int .i64 x2, .int .i64 x3, .int .i64 x4, .int .i64 x5, .int .i64 x7, .string ct, .string dd] 23 (0, 0)))) (St := fun x y => y.heap[w.heap.size]? = x.heap[w.heap.size]? ∨ y.heap[w.heap.size]? = some (.cells #[.int .i64 x1, .int .i64 x2, .int .i64 x3, .int .i64 x4, .int .i64 x5, .int .i64 x7, .string ct, .string dd] 23 (0, 0))) (V := fun dq vq _ => match dq with | 140 => vq = .slice (some ⟨gb, 0, none⟩) 10 cp | 141 => vq = .pointer (some ⟨gb, 1, none⟩) | 142 => vq = .int .i64 x1 | 143 => vq = .slice (some ⟨gb, 0, none⟩) 10 cp | 144 => vq = .pointer (some ⟨gb, 2, none⟩) | 145 => vq = .int .i64 x2 | 146 => vq = .slice (some ⟨gb, 0, none⟩) 10 cp | 147 => vq = .pointer (some ⟨gb, 3, none⟩) | 148 => vq = .int .i64 x3 | 149 => vq = .slice (some ⟨gb, 0, none⟩) 10 cp | 150 => vq = .pointer (some ⟨gb, 4, none⟩) | 151 => vq = .int .i64 x4 | 152 => vq = .slice (some ⟨gb, 0, none⟩) 10 cp | 153 => vq = .pointer (some ⟨gb, 5, none⟩) | 154 => vq = .int .i64 x5 | 155 => vq = .slice (some ⟨gb, 0, none⟩) 10 cp | 156 => vq = .pointer (some ⟨gb, 7, none⟩) | 157 => vq = .int .i64 x7 | 158 => vq = .string nm | 159 => vq = .slice (some ⟨gb, 0, none⟩) 10 cp | 160 => vq = .pointer (some ⟨gb, 8, none⟩) | 161 => vq = .int .i64 (N8 : Int) | 162 => vq = .int .i64 ((N8 : Int) - 1) | 163 => vq = .string ct | 164 => vq = .string s | 165 => vq = .int .i64 (p : Int) | 166 => vq = .slice (some ⟨gb, 0, none⟩) 10 cp | 167 => vq = .pointer (some ⟨gb, 8, none⟩) | 168 => vq = .int .i64 (N8 : Int) | 169 => vq = .int .i64 ((p : Int) + (N8 : Int)) | 170 => vq = .int .i64 ((p : Int) + (N8 : Int) + (N9 : Int)) | 171 => vq = .string dd | 172 => vq = .agg #[.int .i64 x1, .int .i64 x2, .int .i64 x3, .int .i64 x4, .int .i64 x5, .int .i64 x7, .string ct, .string dd] | 173 => vq = .int .i64 ((p : Int) + (N8 : Int) + (N9 : Int)) | 5 => vq = .int .i64 ((p : Int) + (N8 : Int) + (N9 : Int)) | 6 => vq = .int .i64 0 | _ => True) (U := fun o w' => o.dst = none → w'.heap[w.heap.size]? = some (.cells #[.int .i64 x1, .int .i64 x2, .int .i64 x3, .int .i64 x4, .int .i64 x5, .int .i64 x7, .string ct, .string dd] 23 (0, 0))) (w' := w2) (.slice (some ⟨gb, 0, none⟩) 10 cp) ?_ ?_ ?_ ?_ ?_
                  · (clear hV hI hC; go_simp <;> (first | rfl | simp | (rw [IntKind.wrap_i64]; omega)))
                  · exact hC
                  · exact Or.inl rfl
                  · intro d hd; cases hd; rfl
                  · intro h; cases h
                case o167 =>
                  intro Q a w2 hC hV hI
                  have e166 : a.eval (.tmp 166) = .slice (some ⟨gb, 0, none⟩) 10 cp := hV 166 (by simp [Op.operands]) (by kernel_rfl)
                  have f166 : a.tmps.getD 166 undef = .slice (some ⟨gb, 0, none⟩) 10 cp := e166
                  have g166 : a.tmps[166]?.getD undef = .slice (some ⟨gb, 0, none⟩) 10 cp := by rw [← Array.getD_eq_getD_getElem?]; exact e166
                  refine opU_val (C := fun w' => Below w.heap.size w w' ∧ (w'.cell? ⟨gb, 1, none⟩ = some (.int .i64 x1) ∧ w'.cell? ⟨gb, 2, none⟩ = some (.int .i64 x2) ∧ w'.cell? ⟨gb, 3, none⟩ = some (.int .i64 x3) ∧ w'.cell? ⟨gb, 4, none⟩ = some (.int .i64 x4) ∧ w'.cell? ⟨gb, 5, none⟩ = some (.int .i64 x5) ∧ w'.cell? ⟨gb, 7, none⟩ = some (.int .i64 x7) ∧ w'.cell? ⟨gb, 8, none⟩ = some (.int .i64 (N8 : Int))) ∧ (w'.heap[w.heap.size]? = some (.cells zeroC.cells.toArray 23 (0, 0)) ∨ w'.heap[w.heap.size]? = some (.cells #[.int .i64 x1, .int .i64 x2, .int .i64 x3, .int .i64 x4, .int .i64 x5, .int .i64 x7, .string ct, .string dd] 23 (0, 0)))) (St := fun x y => y.heap[w.heap.size]? = x.heap[w.heap.size]? ∨ y.heap[w.heap.size]? = some (.cells #[.int .i64 x1, .int .i64 x2, .int .i64 x3, .int .i64 x4, .int .i64 x5, .int .i64 x7, .string ct, .string dd] 23 (0, 0))) (V := fun dq vq _ => match dq with | 140 => vq = .slice (some ⟨gb, 0, none⟩) 10 cp | 141 => vq = .pointer (some ⟨gb, 1, none⟩) | 142 => vq = .int .i64 x1 | 143 => vq = .slice (some ⟨gb, 0, none⟩) 10 cp | 144 => vq = .pointer (some ⟨gb, 2, none⟩) | 145 => vq = .int .i64 x2 | 146 => vq = .slice (some ⟨gb, 0, none⟩) 10 cp | 147 => vq = .pointer (some ⟨gb, 3, none⟩) | 148 => vq = .int .i64 x3 | 149 => vq = .slice (some ⟨gb, 0, none⟩) 10 cp | 150 => vq = .pointer (some ⟨gb, 4, none⟩) | 151 => vq = .int .i64 x4 | 152 => vq = .slice (some ⟨gb, 0, none⟩) 10 cp | 153 => vq = .pointer (some ⟨gb, 5, none⟩) | 154 => vq = .int .i64 x5 | 155 => vq = .slice (some ⟨gb, 0, none⟩) 10 cp | 156 => vq = .pointer (some ⟨gb, 7, none⟩) | 157 => vq = .int .i64 x7 | 158 => vq = .string nm | 159 => vq = .slice (some ⟨gb, 0, none⟩) 10 cp | 160 => vq = .pointer (some ⟨gb, 8, none⟩) | 161 => vq = .int .i64 (N8 : Int) | 162 => vq = .int .i64 ((N8 : Int) - 1) | 163 => vq = .string ct | 164 => vq = .string s | 165 => vq = .int .i64 (p : Int) | 166 => vq = .slice (some ⟨gb, 0, none⟩) 10 cp | 167 => vq = .pointer (some ⟨gb, 8, none⟩) | 168 => vq = .int .i64 (N8 : Int) | 169 => vq = .int .i64 ((p : Int) + (N8 : Int)) | 170 => vq = .int .i64 ((p : Int) + (N8 : Int) + (N9 : Int)) | 171 => vq = .string dd | 172 => vq = .agg #[.int .i64 x1, .int .i64 x2, .int .i64 x3, .int .i64 x4, .int .i64 x5, .int .i64 x7, .string ct, .string dd] | 173 => vq = .int .i64 ((p : Int) + (N8 : Int) + (N9 : Int)) | 5 => vq = .int .i64 ((p : Int) + (N8 : Int) + (N9 : Int)) | 6 => vq = .int .i64 0 | _ => True) (U := fun o w' => o.dst = none → w'.heap[w.heap.size]? = some (.cells #[.int .i64 x1, .int .i64 x2, .int .i64 x3, .int .i64 x4, .int .i64 x5, .int .i64 x7, .string ct, .string dd] 23 (0, 0))) (w' := w2) (.pointer (some ⟨gb, 8, none⟩)) ?_ ?_ ?_ ?_ ?_
                  · (clear hV hI hC; go_simp <;> (first | rfl | simp | (rw [IntKind.wrap_i64]; omega)))
                  · exact hC
                  · exact Or.inl rfl
                  · intro d hd; cases hd; rfl
                  · intro h; cases h
                case o168 =>
                  intro Q a w2 hC hV hI
                  have e167 : a.eval (.tmp 167) = .pointer (some ⟨gb, 8, none⟩) := hV 167 (by simp [Op.operands]) (by kernel_rfl)
                  have f167 : a.tmps.getD 167 undef = .pointer (some ⟨gb, 8, none⟩) := e167
                  have g167 : a.tmps[167]?.getD undef = .pointer (some ⟨gb, 8, none⟩) := by rw [← Array.getD_eq_getD_getElem?]; exact e167
                  have hK := KC.out w2 hC.2.1
                  refine opU_val (C := fun w' => Below w.heap.size w w' ∧ (w'.cell? ⟨gb, 1, none⟩ = some (.int .i64 x1) ∧ w'.cell? ⟨gb, 2, none⟩ = some (.int .i64 x2) ∧ w'.cell? ⟨gb, 3, none⟩ = some (.int .i64 x3) ∧ w'.cell? ⟨gb, 4, none⟩ = some (.int .i64 x4) ∧ w'.cell? ⟨gb, 5, none⟩ = some (.int .i64 x5) ∧ w'.cell? ⟨gb, 7, none⟩ = some (.int .i64 x7) ∧ w'.cell? ⟨gb, 8, none⟩ = some (.int .i64 (N8 : Int))) ∧ (w'.heap[w.heap.size]? = some (.cells zeroC.cells.toArray 23 (0, 0)) ∨ w'.heap[w.heap.size]? = some (.cells #[.int .i64 x1, .int .i64 x2, .int .i64 x3, .int .i64 x4, .int .i64 x5, .int .i64 x7, .string ct, .string dd] 23 (0, 0)))) (St := fun x y => y.heap[w.heap.size]? = x.heap[w.heap.size]? ∨ y.heap[w.heap.size]? = some (.cells #[.int .i64 x1, .int .i64 x2, .int .i64 x3, .int .i64 x4, .int .i64 x5, .int .i64 x7, .string ct, .string dd] 23 (0, 0))) (V := fun dq vq _ => match dq with | 140 => vq = .slice (some ⟨gb, 0, none⟩) 10 cp | 141 => vq = .pointer (some ⟨gb, 1, none⟩) | 142 => vq = .int .i64 x1 | 143 => vq = .slice (some ⟨gb, 0, none⟩) 10 cp | 144 => vq = .pointer (some ⟨gb, 2, none⟩) | 145 => vq = .int .i64 x2 | 146 => vq = .slice (some ⟨gb, 0, none⟩) 10 cp | 147 => vq = .pointer (some ⟨gb, 3, none⟩) | 148 => vq = .int .i64 x3 | 149 => vq = .slice (some ⟨gb, 0, none⟩) 10 cp | 150 => vq = .pointer (some ⟨gb, 4, none⟩) | 151 => vq = .int .i64 x4 | 152 => vq = .slice (some ⟨gb, 0, none⟩) 10 cp | 153 => vq = .pointer (some ⟨gb, 5, none⟩) | 154 => vq = .int .i64 x5 | 155 => vq = .slice (some ⟨gb, 0, none⟩) 10 cp | 156 => vq = .pointer (some ⟨gb, 7, none⟩) | 157 => vq = .int .i64 x7 | 158 => vq = .string nm | 159 => vq = .slice (some ⟨gb, 0, none⟩) 10 cp | 160 => vq = .pointer (some ⟨gb, 8, none⟩) | 161 => vq = .int .i64 (N8 : Int) | 162 => vq = .int .i64 ((N8 : Int) - 1) | 163 => vq = .string ct | 164 => vq = .string s | 165 => vq = .int .i64 (p : Int) | 166 => vq = .slice (some ⟨gb, 0, none⟩) 10 cp | 167 => vq = .pointer (some ⟨gb, 8, none⟩) | 168 => vq = .int .i64 (N8 : Int) | 169 => vq = .int .i64 ((p : Int) + (N8 : Int)) | 170 => vq = .int .i64 ((p : Int) + (N8 : Int) + (N9 : Int)) | 171 => vq = .string dd | 172 => vq = .agg #[.int .i64 x1, .int .i64 x2, .int .i64 x3, .int .i64 x4, .int .i64 x5, .int .i64 x7, .string ct, .string dd] | 173 => vq = .int .i64 ((p : Int) + (N8 : Int) + (N9 : Int)) | 5 => vq = .int .i64 ((p : Int) + (N8 : Int) + (N9 : Int)) | 6 => vq = .int .i64 0 | _ => True) (U := fun o w' => o.dst = none → w'.heap[w.heap.size]? = some (.cells #[.int .i64 x1, .int .i64 x2, .int .i64 x3, .int .i64 x4, .int .i64 x5, .int .i64 x7, .string ct, .string dd] 23 (0, 0))) (w' := w2) (.int .i64 (N8 : Int)) ?_ ?_ ?_ ?_ ?_
                  · (clear hV hI hC; go_simp <;> (first | rfl | simp | (rw [IntKind.wrap_i64]; omega)))
                  · exact hC
                  · exact Or.inl rfl
                  · intro d hd; cases hd; rfl
                  · intro h; cases h
                case o169 =>
                  intro Q a w2 hC hV hI
                  have e165 : a.eval (.tmp 165) = .int .i64 (p : Int) := hV 165 (by simp [Op.operands]) (by kernel_rfl)
                  have f165 : a.tmps.getD 165 undef = .int .i64 (p : Int) := e165
                  have g165 : a.tmps[165]?.getD undef = .int .i64 (p : Int) := by rw [← Array.getD_eq_getD_getElem?]; exact e165
                  have e168 : a.eval (.tmp 168) = .int .i64 (N8 : Int) := hV 168 (by simp [Op.operands]) (by kernel_rfl)
                  have f168 : a.tmps.getD 168 undef = .int .i64 (N8 : Int) := e168
                  have g168 : a.tmps[168]?.getD undef = .int .i64 (N8 : Int) := by rw [← Array.getD_eq_getD_getElem?]; exact e168
                  refine opU_val (C := fun w' => Below w.heap.size w w' ∧ (w'.cell? ⟨gb, 1, none⟩ = some (.int .i64 x1) ∧ w'.cell? ⟨gb, 2, none⟩ = some (.int .i64 x2) ∧ w'.cell? ⟨gb, 3, none⟩ = some (.int .i64 x3) ∧ w'.cell? ⟨gb, 4, none⟩ = some (.int .i64 x4) ∧ w'.cell? ⟨gb, 5, none⟩ = some (.int .i64 x5) ∧ w'.cell? ⟨gb, 7, none⟩ = some (.int .i64 x7) ∧ w'.cell? ⟨gb, 8, none⟩ = some (.int .i64 (N8 : Int))) ∧ (w'.heap[w.heap.size]? = some (.cells zeroC.cells.toArray 23 (0, 0)) ∨ w'.heap[w.heap.size]? = some (.cells #[.int .i64 x1, .int .i64 x2, .int .i64 x3, .int .i64 x4, .int .i64 x5, .int .i64 x7, .string ct, .string dd] 23 (0, 0)))) (St := fun x y => y.heap[w.heap.size]? = x.heap[w.heap.size]? ∨ y.heap[w.heap.size]? = some (.cells #[.int .i64 x1, .int .i64 x2, .int .i64 x3, .int .i64 x4, .int .i64 x5, .int .i64 x7, .string ct, .string dd] 23 (0, 0))) (V := fun dq vq _ => match dq with | 140 => vq = .slice (some ⟨gb, 0, none⟩) 10 cp | 141 => vq = .pointer (some ⟨gb, 1, none⟩) | 142 => vq = .int .i64 x1 | 143 => vq = .slice (some ⟨gb, 0, none⟩) 10 cp | 144 => vq = .pointer (some ⟨gb, 2, none⟩) | 145 => vq = .int .i64 x2 | 146 => vq = .slice (some ⟨gb, 0, none⟩) 10 cp | 147 => vq = .pointer (some ⟨gb, 3, none⟩) | 148 => vq = .int .i64 x3 | 149 => vq = .slice (some ⟨gb, 0, none⟩) 10 cp | 150 => vq = .pointer (some ⟨gb, 4, none⟩) | 151 => vq = .int .i64 x4 | 152 => vq = .slice (some ⟨gb, 0, none⟩) 10 cp | 153 => vq = .pointer (some ⟨gb, 5, none⟩) | 154 => vq = .int .i64 x5 | 155 => vq = .slice (some ⟨gb, 0, none⟩) 10 cp | 156 => vq = .pointer (some ⟨gb, 7, none⟩) | 157 => vq = .int .i64 x7 | 158 => vq = .string nm | 159 => vq = .slice (some ⟨gb, 0, none⟩) 10 cp | 160 => vq = .pointer (some ⟨gb, 8, none⟩) | 161 => vq = .int .i64 (N8 : Int) | 162 => vq = .int .i64 ((N8 : Int) - 1) | 163 => vq = .string ct | 164 => vq = .string s | 165 => vq = .int .i64 (p : Int) | 166 => vq = .slice (some ⟨gb, 0, none⟩) 10 cp | 167 => vq = .pointer (some ⟨gb, 8, none⟩) | 168 => vq = .int .i64 (N8 : Int) | 169 => vq = .int .i64 ((p : Int) + (N8 : Int)) | 170 => vq = .int .i64 ((p : Int) + (N8 : Int) + (N9 : Int)) | 171 => vq = .string dd | 172 => vq = .agg #[.int .i64 x1, .int .i64 x2, .int .i64 x3, .int .i64 x4, .int .i64 x5, .int .i64 x7, .string ct, .string dd] | 173 => vq = .int .i64 ((p : Int) + (N8 : Int) + (N9 : Int)) | 5 => vq = .int .i64 ((p : Int) + (N8 : Int) + (N9 : Int)) | 6 => vq = .int .i64 0 | _ => True) (U := fun o w' => o.dst = none → w'.heap[w.heap.size]? = some (.cells #[.int .i64 x1, .int .i64 x2, .int .i64 x3, .int .i64 x4, .int .i64 x5, .int .i64 x7, .string ct, .string dd] 23 (0, 0))) (w' := w2) (.int .i64 ((p : Int) + (N8 : Int))) ?_ ?_ ?_ ?_ ?_
                  · (clear hV hI hC; go_simp <;> (first | rfl | simp | (rw [IntKind.wrap_i64]; omega)))
                  · exact hC
                  · exact Or.inl rfl
                  · intro d hd; cases hd; rfl
                  · intro h; cases h
                case o170 =>
                  intro Q a w2 hC hV hI
                  have e14 : a.eval (.tmp 14) = .int .i64 ((p : Int) + (N8 : Int) + (N9 : Int)) := (hI 14 (by simp [Op.operands]) (by kernel_rfl)).trans rfl
                  have f14 : a.tmps.getD 14 undef = .int .i64 ((p : Int) + (N8 : Int) + (N9 : Int)) := e14
                  have g14 : a.tmps[14]?.getD undef = .int .i64 ((p : Int) + (N8 : Int) + (N9 : Int)) := by rw [← Array.getD_eq_getD_getElem?]; exact e14
                  refine opU_val (C := fun w' => Below w.heap.size w w' ∧ (w'.cell? ⟨gb, 1, none⟩ = some (.int .i64 x1) ∧ w'.cell? ⟨gb, 2, none⟩ = some (.int .i64 x2) ∧ w'.cell? ⟨gb, 3, none⟩ = some (.int .i64 x3) ∧ w'.cell? ⟨gb, 4, none⟩ = some (.int .i64 x4) ∧ w'.cell? ⟨gb, 5, none⟩ = some (.int .i64 x5) ∧ w'.cell? ⟨gb, 7, none⟩ = some (.int .i64 x7) ∧ w'.cell? ⟨gb, 8, none⟩ = some (.int .i64 (N8 : Int))) ∧ (w'.heap[w.heap.size]? = some (.cells zeroC.cells.toArray 23 (0, 0)) ∨ w'.heap[w.heap.size]? = some (.cells #[.int .i64 x1, .int .i64 x2, .int .i64 x3, .int .i64 x4, .int .i64 x5, .int .i64 x7, .string ct, .string dd] 23 (0, 0)))) (St := fun x y => y.heap[w.heap.size]? = x.heap[w.heap.size]? ∨ y.heap[w.heap.size]? = some (.cells #[.int .i64 x1, .int .i64 x2, .int .i64 x3, .int .i64 x4, .int .i64 x5, .int .i64 x7, .string ct, .string dd] 23 (0, 0))) (V := fun dq vq _ => match dq with | 140 => vq = .slice (some ⟨gb, 0, none⟩) 10 cp | 141 => vq = .pointer (some ⟨gb, 1, none⟩) | 142 => vq = .int .i64 x1 | 143 => vq = .slice (some ⟨gb, 0, none⟩) 10 cp | 144 => vq = .pointer (some ⟨gb, 2, none⟩) | 145 => vq = .int .i64 x2 | 146 => vq = .slice (some ⟨gb, 0, none⟩) 10 cp | 147 => vq = .pointer (some ⟨gb, 3, none⟩) | 148 => vq = .int .i64 x3 | 149 => vq = .slice (some ⟨gb, 0, none⟩) 10 cp | 150 => vq = .pointer (some ⟨gb, 4, none⟩) | 151 => vq = .int .i64 x4 | 152 => vq = .slice (some ⟨gb, 0, none⟩) 10 cp | 153 => vq = .pointer (some ⟨gb, 5, none⟩) | 154 => vq = .int .i64 x5 | 155 => vq = .slice (some ⟨gb, 0, none⟩) 10 cp | 156 => vq = .pointer (some ⟨gb, 7, none⟩) | 157 => vq = .int .i64 x7 | 158 => vq = .string nm | 159 => vq = .slice (some ⟨gb, 0, none⟩) 10 cp | 160 => vq = .pointer (some ⟨gb, 8, none⟩) | 161 => vq = .int .i64 (N8 : Int) | 162 => vq = .int .i64 ((N8 : Int) - 1) | 163 => vq = .string ct | 164 => vq = .string s | 165 => vq = .int .i64 (p : Int) | 166 => vq = .slice (some ⟨gb, 0, none⟩) 10 cp | 167 => vq = .pointer (some ⟨gb, 8, none⟩) | 168 => vq = .int .i64 (N8 : Int) | 169 => vq = .int .i64 ((p : Int) + (N8 : Int)) | 170 => vq = .int .i64 ((p : Int) + (N8 : Int) + (N9 : Int)) | 171 => vq = .string dd | 172 => vq = .agg #[.int .i64 x1, .int .i64 x2, .int .i64 x3, .int .i64 x4, .int .i64 x5, .int .i64 x7, .string ct, .string dd] | 173 => vq = .int .i64 ((p : Int) + (N8 : Int) + (N9 : Int)) | 5 => vq = .int .i64 ((p : Int) + (N8 : Int) + (N9 : Int)) | 6 => vq = .int .i64 0 | _ => True) (U := fun o w' => o.dst = none → w'.heap[w.heap.size]? = some (.cells #[.int .i64 x1, .int .i64 x2, .int .i64 x3, .int .i64 x4, .int .i64 x5, .int .i64 x7, .string ct, .string dd] 23 (0, 0))) (w' := w2) (.int .i64 ((p : Int) + (N8 : Int) + (N9 : Int))) ?_ ?_ ?_ ?_ ?_
                  · (clear hV hI hC; go_simp <;> (first | rfl | simp | (rw [IntKind.wrap_i64]; omega)))
                  · exact hC
                  · exact Or.inl rfl
                  · intro d hd; cases hd; rfl
                  · intro h; cases h
                case o171 =>
                  intro Q a w2 hC hV hI
                  have e164 : a.eval (.tmp 164) = .string s := hV 164 (by simp [Op.operands]) (by kernel_rfl)
                  have f164 : a.tmps.getD 164 undef = .string s := e164
                  have g164 : a.tmps[164]?.getD undef = .string s := by rw [← Array.getD_eq_getD_getElem?]; exact e164
                  have e169 : a.eval (.tmp 169) = .int .i64 ((p : Int) + (N8 : Int)) := hV 169 (by simp [Op.operands]) (by kernel_rfl)
                  have f169 : a.tmps.getD 169 undef = .int .i64 ((p : Int) + (N8 : Int)) := e169
                  have g169 : a.tmps[169]?.getD undef = .int .i64 ((p : Int) + (N8 : Int)) := by rw [← Array.getD_eq_getD_getElem?]; exact e169
                  have e170 : a.eval (.tmp 170) = .int .i64 ((p : Int) + (N8 : Int) + (N9 : Int)) := hV 170 (by simp [Op.operands]) (by kernel_rfl)
                  have f170 : a.tmps.getD 170 undef = .int .i64 ((p : Int) + (N8 : Int) + (N9 : Int)) := e170
                  have g170 : a.tmps[170]?.getD undef = .int .i64 ((p : Int) + (N8 : Int) + (N9 : Int)) := by rw [← Array.getD_eq_getD_getElem?]; exact e170
                  have q9 := HSd.out w2
                  refine opU_val (C := fun w' => Below w.heap.size w w' ∧ (w'.cell? ⟨gb, 1, none⟩ = some (.int .i64 x1) ∧ w'.cell? ⟨gb, 2, none⟩ = some (.int .i64 x2) ∧ w'.cell? ⟨gb, 3, none⟩ = some (.int .i64 x3) ∧ w'.cell? ⟨gb, 4, none⟩ = some (.int .i64 x4) ∧ w'.cell? ⟨gb, 5, none⟩ = some (.int .i64 x5) ∧ w'.cell? ⟨gb, 7, none⟩ = some (.int .i64 x7) ∧ w'.cell? ⟨gb, 8, none⟩ = some (.int .i64 (N8 : Int))) ∧ (w'.heap[w.heap.size]? = some (.cells zeroC.cells.toArray 23 (0, 0)) ∨ w'.heap[w.heap.size]? = some (.cells #[.int .i64 x1, .int .i64 x2, .int .i64 x3, .int .i64 x4, .int .i64 x5, .int .i64 x7, .string ct, .string dd] 23 (0, 0)))) (St := fun x y => y.heap[w.heap.size]? = x.heap[w.heap.size]? ∨ y.heap[w.heap.size]? = some (.cells #[.int .i64 x1, .int .i64 x2, .int .i64 x3, .int .i64 x4, .int .i64 x5, .int .i64 x7, .string ct, .string dd] 23 (0, 0))) (V := fun dq vq _ => match dq with | 140 => vq = .slice (some ⟨gb, 0, none⟩) 10 cp | 141 => vq = .pointer (some ⟨gb, 1, none⟩) | 142 => vq = .int .i64 x1 | 143 => vq = .slice (some ⟨gb, 0, none⟩) 10 cp | 144 => vq = .pointer (some ⟨gb, 2, none⟩) | 145 => vq = .int .i64 x2 | 146 => vq = .slice (some ⟨gb, 0, none⟩) 10 cp | 147 => vq = .pointer (some ⟨gb, 3, none⟩) | 148 => vq = .int .i64 x3 | 149 => vq = .slice (some ⟨gb, 0, none⟩) 10 cp | 150 => vq = .pointer (some ⟨gb, 4, none⟩) | 151 => vq = .int .i64 x4 | 152 => vq = .slice (some ⟨gb, 0, none⟩) 10 cp | 153 => vq = .pointer (some ⟨gb, 5, none⟩) | 154 => vq = .int .i64 x5 | 155 => vq = .slice (some ⟨gb, 0, none⟩) 10 cp | 156 => vq = .pointer (some ⟨gb, 7, none⟩) | 157 => vq = .int .i64 x7 | 158 => vq = .string nm | 159 => vq = .slice (some ⟨gb, 0, none⟩) 10 cp | 160 => vq = .pointer (some ⟨gb, 8, none⟩) | 161 => vq = .int .i64 (N8 : Int) | 162 => vq = .int .i64 ((N8 : Int) - 1) | 163 => vq = .string ct | 164 => vq = .string s | 165 => vq = .int .i64 (p : Int) | 166 => vq = .slice (some ⟨gb, 0, none⟩) 10 cp | 167 => vq = .pointer (some ⟨gb, 8, none⟩) | 168 => vq = .int .i64 (N8 : Int) | 169 => vq = .int .i64 ((p : Int) + (N8 : Int)) | 170 => vq = .int .i64 ((p : Int) + (N8 : Int) + (N9 : Int)) | 171 => vq = .string dd | 172 => vq = .agg #[.int .i64 x1, .int .i64 x2, .int .i64 x3, .int .i64 x4, .int .i64 x5, .int .i64 x7, .string ct, .string dd] | 173 => vq = .int .i64 ((p : Int) + (N8 : Int) + (N9 : Int)) | 5 => vq = .int .i64 ((p : Int) + (N8 : Int) + (N9 : Int)) | 6 => vq = .int .i64 0 | _ => True) (U := fun o w' => o.dst = none → w'.heap[w.heap.size]? = some (.cells #[.int .i64 x1, .int .i64 x2, .int .i64 x3, .int .i64 x4, .int .i64 x5, .int .i64 x7, .string ct, .string dd] 23 (0, 0))) (w' := w2) (.string dd) ?_ ?_ ?_ ?_ ?_
                  · (clear hV hI hC; go_simp <;> (first | rfl | simp | (rw [IntKind.wrap_i64]; omega)))
                  · exact hC
                  · exact Or.inl rfl
                  · intro d hd; cases hd; rfl
                  · intro h; cases h
                case o172 =>
                  intro Q a w2 hC hV hI
                  have e142 : a.eval (.tmp 142) = .int .i64 x1 := hV 142 (by simp [Op.operands]) (by kernel_rfl)
                  have f142 : a.tmps.getD 142 undef = .int .i64 x1 := e142
                  have g142 : a.tmps[142]?.getD undef = .int .i64 x1 := by rw [← Array.getD_eq_getD_getElem?]; exact e142
                  have e145 : a.eval (.tmp 145) = .int .i64 x2 := hV 145 (by simp [Op.operands]) (by kernel_rfl)
                  have f145 : a.tmps.getD 145 undef = .int .i64 x2 := e145
                  have g145 : a.tmps[145]?.getD undef = .int .i64 x2 := by rw [← Array.getD_eq_getD_getElem?]; exact e145
                  have e148 : a.eval (.tmp 148) = .int .i64 x3 := hV 148 (by simp [Op.operands]) (by kernel_rfl)
                  have f148 : a.tmps.getD 148 undef = .int .i64 x3 := e148
                  have g148 : a.tmps[148]?.getD undef = .int .i64 x3 := by rw [← Array.getD_eq_getD_getElem?]; exact e148
                  have e151 : a.eval (.tmp 151) = .int .i64 x4 := hV 151 (by simp [Op.operands]) (by kernel_rfl)
                  have f151 : a.tmps.getD 151 undef = .int .i64 x4 := e151
                  have g151 : a.tmps[151]?.getD undef = .int .i64 x4 := by rw [← Array.getD_eq_getD_getElem?]; exact e151
                  have e154 : a.eval (.tmp 154) = .int .i64 x5 := hV 154 (by simp [Op.operands]) (by kernel_rfl)
                  have f154 : a.tmps.getD 154 undef = .int .i64 x5 := e154
                  have g154 : a.tmps[154]?.getD undef = .int .i64 x5 := by rw [← Array.getD_eq_getD_getElem?]; exact e154
                  have e157 : a.eval (.tmp 157) = .int .i64 x7 := hV 157 (by simp [Op.operands]) (by kernel_rfl)
                  have f157 : a.tmps.getD 157 undef = .int .i64 x7 := e157
                  have g157 : a.tmps[157]?.getD undef = .int .i64 x7 := by rw [← Array.getD_eq_getD_getElem?]; exact e157
                  have e163 : a.eval (.tmp 163) = .string ct := hV 163 (by simp [Op.operands]) (by kernel_rfl)
                  have f163 : a.tmps.getD 163 undef = .string ct := e163
                  have g163 : a.tmps[163]?.getD undef = .string ct := by rw [← Array.getD_eq_getD_getElem?]; exact e163
                  have e171 : a.eval (.tmp 171) = .string dd := hV 171 (by simp [Op.operands]) (by kernel_rfl)
                  have f171 : a.tmps.getD 171 undef = .string dd := e171
                  have g171 : a.tmps[171]?.getD undef = .string dd := by rw [← Array.getD_eq_getD_getElem?]; exact e171
                  refine opU_val (C := fun w' => Below w.heap.size w w' ∧ (w'.cell? ⟨gb, 1, none⟩ = some (.int .i64 x1) ∧ w'.cell? ⟨gb, 2, none⟩ = some (.int .i64 x2) ∧ w'.cell? ⟨gb, 3, none⟩ = some (.int .i64 x3) ∧ w'.cell? ⟨gb, 4, none⟩ = some (.int .i64 x4) ∧ w'.cell? ⟨gb, 5, none⟩ = some (.int .i64 x5) ∧ w'.cell? ⟨gb, 7, none⟩ = some (.int .i64 x7) ∧ w'.cell? ⟨gb, 8, none⟩ = some (.int .i64 (N8 : Int))) ∧ (w'.heap[w.heap.size]? = some (.cells zeroC.cells.toArray 23 (0, 0)) ∨ w'.heap[w.heap.size]? = some (.cells #[.int .i64 x1, .int .i64 x2, .int .i64 x3, .int .i64 x4, .int .i64 x5, .int .i64 x7, .string ct, .string dd] 23 (0, 0)))) (St := fun x y => y.heap[w.heap.size]? = x.heap[w.heap.size]? ∨ y.heap[w.heap.size]? = some (.cells #[.int .i64 x1, .int .i64 x2, .int .i64 x3, .int .i64 x4, .int .i64 x5, .int .i64 x7, .string ct, .string dd] 23 (0, 0))) (V := fun dq vq _ => match dq with | 140 => vq = .slice (some ⟨gb, 0, none⟩) 10 cp | 141 => vq = .pointer (some ⟨gb, 1, none⟩) | 142 => vq = .int .i64 x1 | 143 => vq = .slice (some ⟨gb, 0, none⟩) 10 cp | 144 => vq = .pointer (some ⟨gb, 2, none⟩) | 145 => vq = .int .i64 x2 | 146 => vq = .slice (some ⟨gb, 0, none⟩) 10 cp | 147 => vq = .pointer (some ⟨gb, 3, none⟩) | 148 => vq = .int .i64 x3 | 149 => vq = .slice (some ⟨gb, 0, none⟩) 10 cp | 150 => vq = .pointer (some ⟨gb, 4, none⟩) | 151 => vq = .int .i64 x4 | 152 => vq = .slice (some ⟨gb, 0, none⟩) 10 cp | 153 => vq = .pointer (some ⟨gb, 5, none⟩) | 154 => vq = .int .i64 x5 | 155 => vq = .slice (some ⟨gb, 0, none⟩) 10 cp | 156 => vq = .pointer (some ⟨gb, 7, none⟩) | 157 => vq = .int .i64 x7 | 158 => vq = .string nm | 159 => vq = .slice (some ⟨gb, 0, none⟩) 10 cp | 160 => vq = .pointer (some ⟨gb, 8, none⟩) | 161 => vq = .int .i64 (N8 : Int) | 162 => vq = .int .i64 ((N8 : Int) - 1) | 163 => vq = .string ct | 164 => vq = .string s | 165 => vq = .int .i64 (p : Int) | 166 => vq = .slice (some ⟨gb, 0, none⟩) 10 cp | 167 => vq = .pointer (some ⟨gb, 8, none⟩) | 168 => vq = .int .i64 (N8 : Int) | 169 => vq = .int .i64 ((p : Int) + (N8 : Int)) | 170 => vq = .int .i64 ((p : Int) + (N8 : Int) + (N9 : Int)) | 171 => vq = .string dd | 172 => vq = .agg #[.int .i64 x1, .int .i64 x2, .int .i64 x3, .int .i64 x4, .int .i64 x5, .int .i64 x7, .string ct, .string dd] | 173 => vq = .int .i64 ((p : Int) + (N8 : Int) + (N9 : Int)) | 5 => vq = .int .i64 ((p : Int) + (N8 : Int) + (N9 : Int)) | 6 => vq = .int .i64 0 | _ => True) (U := fun o w' => o.dst = none → w'.heap[w.heap.size]? = some (.cells #[.int .i64 x1, .int .i64 x2, .int .i64 x3, .int .i64 x4, .int .i64 x5, .int .i64 x7, .string ct, .string dd] 23 (0, 0))) (w' := w2) (.agg #[.int .i64 x1, .int .i64 x2, .int .i64 x3, .int .i64 x4, .int .i64 x5, .int .i64 x7, .string ct, .string dd]) ?_ ?_ ?_ ?_ ?_
                  · (clear hV hI hC; go_simp <;> (first | rfl | simp | (rw [IntKind.wrap_i64]; omega)))
                  · exact hC
                  · exact Or.inl rfl
                  · intro d hd; cases hd; rfl
                  · intro h; cases h
                case o173 =>
                  intro Q a w2 hC hV hI
                  have e14 : a.eval (.tmp 14) = .int .i64 ((p : Int) + (N8 : Int) + (N9 : Int)) := (hI 14 (by simp [Op.operands]) (by kernel_rfl)).trans rfl
                  have f14 : a.tmps.getD 14 undef = .int .i64 ((p : Int) + (N8 : Int) + (N9 : Int)) := e14
                  have g14 : a.tmps[14]?.getD undef = .int .i64 ((p : Int) + (N8 : Int) + (N9 : Int)) := by rw [← Array.getD_eq_getD_getElem?]; exact e14
                  refine opU_val (C := fun w' => Below w.heap.size w w' ∧ (w'.cell? ⟨gb, 1, none⟩ = some (.int .i64 x1) ∧ w'.cell? ⟨gb, 2, none⟩ = some (.int .i64 x2) ∧ w'.cell? ⟨gb, 3, none⟩ = some (.int .i64 x3) ∧ w'.cell? ⟨gb, 4, none⟩ = some (.int .i64 x4) ∧ w'.cell? ⟨gb, 5, none⟩ = some (.int .i64 x5) ∧ w'.cell? ⟨gb, 7, none⟩ = some (.int .i64 x7) ∧ w'.cell? ⟨gb, 8, none⟩ = some (.int .i64 (N8 : Int))) ∧ (w'.heap[w.heap.size]? = some (.cells zeroC.cells.toArray 23 (0, 0)) ∨ w'.heap[w.heap.size]? = some (.cells #[.int .i64 x1, .int .i64 x2, .int .i64 x3, .int .i64 x4, .int .i64 x5, .int .i64 x7, .string ct, .string dd] 23 (0, 0)))) (St := fun x y => y.heap[w.heap.size]? = x.heap[w.heap.size]? ∨ y.heap[w.heap.size]? = some (.cells #[.int .i64 x1, .int .i64 x2, .int .i64 x3, .int .i64 x4, .int .i64 x5, .int .i64 x7, .string ct, .string dd] 23 (0, 0))) (V := fun dq vq _ => match dq with | 140 => vq = .slice (some ⟨gb, 0, none⟩) 10 cp | 141 => vq = .pointer (some ⟨gb, 1, none⟩) | 142 => vq = .int .i64 x1 | 143 => vq = .slice (some ⟨gb, 0, none⟩) 10 cp | 144 => vq = .pointer (some ⟨gb, 2, none⟩) | 145 => vq = .int .i64 x2 | 146 => vq = .slice (some ⟨gb, 0, none⟩) 10 cp | 147 => vq = .pointer (some ⟨gb, 3, none⟩) | 148 => vq = .int .i64 x3 | 149 => vq = .slice (some ⟨gb, 0, none⟩) 10 cp | 150 => vq = .pointer (some ⟨gb, 4, none⟩) | 151 => vq = .int .i64 x4 | 152 => vq = .slice (some ⟨gb, 0, none⟩) 10 cp | 153 => vq = .pointer (some ⟨gb, 5, none⟩) | 154 => vq = .int .i64 x5 | 155 => vq = .slice (some ⟨gb, 0, none⟩) 10 cp | 156 => vq = .pointer (some ⟨gb, 7, none⟩) | 157 => vq = .int .i64 x7 | 158 => vq = .string nm | 159 => vq = .slice (some ⟨gb, 0, none⟩) 10 cp | 160 => vq = .pointer (some ⟨gb, 8, none⟩) | 161 => vq = .int .i64 (N8 : Int) | 162 => vq = .int .i64 ((N8 : Int) - 1) | 163 => vq = .string ct | 164 => vq = .string s | 165 => vq = .int .i64 (p : Int) | 166 => vq = .slice (some ⟨gb, 0, none⟩) 10 cp | 167 => vq = .pointer (some ⟨gb, 8, none⟩) | 168 => vq = .int .i64 (N8 : Int) | 169 => vq = .int .i64 ((p : Int) + (N8 : Int)) | 170 => vq = .int .i64 ((p : Int) + (N8 : Int) + (N9 : Int)) | 171 => vq = .string dd | 172 => vq = .agg #[.int .i64 x1, .int .i64 x2, .int .i64 x3, .int .i64 x4, .int .i64 x5, .int .i64 x7, .string ct, .string dd] | 173 => vq = .int .i64 ((p : Int) + (N8 : Int) + (N9 : Int)) | 5 => vq = .int .i64 ((p : Int) + (N8 : Int) + (N9 : Int)) | 6 => vq = .int .i64 0 | _ => True) (U := fun o w' => o.dst = none → w'.heap[w.heap.size]? = some (.cells #[.int .i64 x1, .int .i64 x2, .int .i64 x3, .int .i64 x4, .int .i64 x5, .int .i64 x7, .string ct, .string dd] 23 (0, 0))) (w' := w2) (.int .i64 ((p : Int) + (N8 : Int) + (N9 : Int))) ?_ ?_ ?_ ?_ ?_
                  · (clear hV hI hC; go_simp <;> (first | rfl | simp | (rw [IntKind.wrap_i64]; omega)))
                  · exact hC
                  · exact Or.inl rfl
                  · intro d hd; cases hd; rfl
                  · intro h; cases h
                case os34 =>
                  intro Q a w2 hC hV hI
                  have e4 : a.eval (.tmp 4) = .pointer (some ⟨w.heap.size, 0, none⟩) := (hI 4 (by simp [Op.operands]) (by kernel_rfl)).trans rfl
                  have f4 : a.tmps.getD 4 undef = .pointer (some ⟨w.heap.size, 0, none⟩) := e4
                  have g4 : a.tmps[4]?.getD undef = .pointer (some ⟨w.heap.size, 0, none⟩) := by rw [← Array.getD_eq_getD_getElem?]; exact e4
                  have e172 : a.eval (.tmp 172) = .agg #[.int .i64 x1, .int .i64 x2, .int .i64 x3, .int .i64 x4, .int .i64 x5, .int .i64 x7, .string ct, .string dd] := hV 172 (by simp [Op.operands]) (by kernel_rfl)
                  have f172 : a.tmps.getD 172 undef = .agg #[.int .i64 x1, .int .i64 x2, .int .i64 x3, .int .i64 x4, .int .i64 x5, .int .i64 x7, .string ct, .string dd] := e172
                  have g172 : a.tmps[172]?.getD undef = .agg #[.int .i64 x1, .int .i64 x2, .int .i64 x3, .int .i64 x4, .int .i64 x5, .int .i64 x7, .string ct, .string dd] := by rw [← Array.getD_eq_getD_getElem?]; exact e172
                  have hS : ∀ cs : Array Value, cs.size = 8 → w2.heap[w.heap.size]? = some (.cells cs 23 (0, 0)) → _ := fun cs hc hR => run_storeVar_row (P := Try.prog) w2 w.heap.size 23 23 cs #[.int .i64 x1, .int .i64 x2, .int .i64 x3, .int .i64 x4, .int .i64 x5, .int .i64 x7, .string ct, .string dd] hR (by rw [Try.sizeOC]; rfl) hc (by simp [Value.oneCell'])
                  have hR2 : (w2.setRow w.heap.size #[.int .i64 x1, .int .i64 x2, .int .i64 x3, .int .i64 x4, .int .i64 x5, .int .i64 x7, .string ct, .string dd]).heap[w.heap.size]? = some (.cells #[.int .i64 x1, .int .i64 x2, .int .i64 x3, .int .i64 x4, .int .i64 x5, .int .i64 x7, .string ct, .string dd] 23 (0, 0)) := hC.2.2.elim (fun h => setRow_heap _ _ _ _ _ _ h) (fun h => setRow_heap _ _ _ _ _ _ h)
                  have hcb : (w2.setRow w.heap.size #[.int .i64 x1, .int .i64 x2, .int .i64 x3, .int .i64 x4, .int .i64 x5, .int .i64 x7, .string ct, .string dd]).heap[gb]? = w2.heap[gb]? := setRow_other _ _ _ _ (by omega)
                  have hkb : ∀ m, (w2.setRow w.heap.size #[.int .i64 x1, .int .i64 x2, .int .i64 x3, .int .i64 x4, .int .i64 x5, .int .i64 x7, .string ct, .string dd]).cell? ⟨gb, m, none⟩ = w2.cell? ⟨gb, m, none⟩ := fun m => World.cell?_of_block hcb
                  refine opU_store (C := fun w' => Below w.heap.size w w' ∧ (w'.cell? ⟨gb, 1, none⟩ = some (.int .i64 x1) ∧ w'.cell? ⟨gb, 2, none⟩ = some (.int .i64 x2) ∧ w'.cell? ⟨gb, 3, none⟩ = some (.int .i64 x3) ∧ w'.cell? ⟨gb, 4, none⟩ = some (.int .i64 x4) ∧ w'.cell? ⟨gb, 5, none⟩ = some (.int .i64 x5) ∧ w'.cell? ⟨gb, 7, none⟩ = some (.int .i64 x7) ∧ w'.cell? ⟨gb, 8, none⟩ = some (.int .i64 (N8 : Int))) ∧ (w'.heap[w.heap.size]? = some (.cells zeroC.cells.toArray 23 (0, 0)) ∨ w'.heap[w.heap.size]? = some (.cells #[.int .i64 x1, .int .i64 x2, .int .i64 x3, .int .i64 x4, .int .i64 x5, .int .i64 x7, .string ct, .string dd] 23 (0, 0)))) (St := fun x y => y.heap[w.heap.size]? = x.heap[w.heap.size]? ∨ y.heap[w.heap.size]? = some (.cells #[.int .i64 x1, .int .i64 x2, .int .i64 x3, .int .i64 x4, .int .i64 x5, .int .i64 x7, .string ct, .string dd] 23 (0, 0))) (V := fun dq vq _ => match dq with | 140 => vq = .slice (some ⟨gb, 0, none⟩) 10 cp | 141 => vq = .pointer (some ⟨gb, 1, none⟩) | 142 => vq = .int .i64 x1 | 143 => vq = .slice (some ⟨gb, 0, none⟩) 10 cp | 144 => vq = .pointer (some ⟨gb, 2, none⟩) | 145 => vq = .int .i64 x2 | 146 => vq = .slice (some ⟨gb, 0, none⟩) 10 cp | 147 => vq = .pointer (some ⟨gb, 3, none⟩) | 148 => vq = .int .i64 x3 | 149 => vq = .slice (some ⟨gb, 0, none⟩) 10 cp | 150 => vq = .pointer (some ⟨gb, 4, none⟩) | 151 => vq = .int .i64 x4 | 152 => vq = .slice (some ⟨gb, 0, none⟩) 10 cp | 153 => vq = .pointer (some ⟨gb, 5, none⟩) | 154 => vq = .int .i64 x5 | 155 => vq = .slice (some ⟨gb, 0, none⟩) 10 cp | 156 => vq = .pointer (some ⟨gb, 7, none⟩) | 157 => vq = .int .i64 x7 | 158 => vq = .string nm | 159 => vq = .slice (some ⟨gb, 0, none⟩) 10 cp | 160 => vq = .pointer (some ⟨gb, 8, none⟩) | 161 => vq = .int .i64 (N8 : Int) | 162 => vq = .int .i64 ((N8 : Int) - 1) | 163 => vq = .string ct | 164 => vq = .string s | 165 => vq = .int .i64 (p : Int) | 166 => vq = .slice (some ⟨gb, 0, none⟩) 10 cp | 167 => vq = .pointer (some ⟨gb, 8, none⟩) | 168 => vq = .int .i64 (N8 : Int) | 169 => vq = .int .i64 ((p : Int) + (N8 : Int)) | 170 => vq = .int .i64 ((p : Int) + (N8 : Int) + (N9 : Int)) | 171 => vq = .string dd | 172 => vq = .agg #[.int .i64 x1, .int .i64 x2, .int .i64 x3, .int .i64 x4, .int .i64 x5, .int .i64 x7, .string ct, .string dd] | 173 => vq = .int .i64 ((p : Int) + (N8 : Int) + (N9 : Int)) | 5 => vq = .int .i64 ((p : Int) + (N8 : Int) + (N9 : Int)) | 6 => vq = .int .i64 0 | _ => True) (U := fun o w' => o.dst = none → w'.heap[w.heap.size]? = some (.cells #[.int .i64 x1, .int .i64 x2, .int .i64 x3, .int .i64 x4, .int .i64 x5, .int .i64 x7, .string ct, .string dd] 23 (0, 0))) 23 _ _ rfl rfl ⟨w.heap.size, 0, none⟩ e4 e172 (hC.2.2.elim (fun h => hS _ rfl h) (fun h => hS _ rfl h)) ?_ ?_ ?_
                  · exact ⟨hC.1.trans (below_setK (Nat.le_refl _) _), ⟨(hkb 1).trans hC.2.1.1, (hkb 2).trans hC.2.1.2.1, (hkb 3).trans hC.2.1.2.2.1, (hkb 4).trans hC.2.1.2.2.2.1, (hkb 5).trans hC.2.1.2.2.2.2.1, (hkb 7).trans hC.2.1.2.2.2.2.2.1, (hkb 8).trans hC.2.1.2.2.2.2.2.2⟩, Or.inr hR2⟩
                  · exact Or.inr hR2
                  · intro _; exact hR2
                case o5 =>
                  intro Q a w2 hC hV hI
                  have e173 : a.eval (.tmp 173) = .int .i64 ((p : Int) + (N8 : Int) + (N9 : Int)) := hV 173 (by simp [Op.operands]) (by kernel_rfl)
                  have f173 : a.tmps.getD 173 undef = .int .i64 ((p : Int) + (N8 : Int) + (N9 : Int)) := e173
                  have g173 : a.tmps[173]?.getD undef = .int .i64 ((p : Int) + (N8 : Int) + (N9 : Int)) := by rw [← Array.getD_eq_getD_getElem?]; exact e173
                  refine opU_val (C := fun w' => Below w.heap.size w w' ∧ (w'.cell? ⟨gb, 1, none⟩ = some (.int .i64 x1) ∧ w'.cell? ⟨gb, 2, none⟩ = some (.int .i64 x2) ∧ w'.cell? ⟨gb, 3, none⟩ = some (.int .i64 x3) ∧ w'.cell? ⟨gb, 4, none⟩ = some (.int .i64 x4) ∧ w'.cell? ⟨gb, 5, none⟩ = some (.int .i64 x5) ∧ w'.cell? ⟨gb, 7, none⟩ = some (.int .i64 x7) ∧ w'.cell? ⟨gb, 8, none⟩ = some (.int .i64 (N8 : Int))) ∧ (w'.heap[w.heap.size]? = some (.cells zeroC.cells.toArray 23 (0, 0)) ∨ w'.heap[w.heap.size]? = some (.cells #[.int .i64 x1, .int .i64 x2, .int .i64 x3, .int .i64 x4, .int .i64 x5, .int .i64 x7, .string ct, .string dd] 23 (0, 0)))) (St := fun x y => y.heap[w.heap.size]? = x.heap[w.heap.size]? ∨ y.heap[w.heap.size]? = some (.cells #[.int .i64 x1, .int .i64 x2, .int .i64 x3, .int .i64 x4, .int .i64 x5, .int .i64 x7, .string ct, .string dd] 23 (0, 0))) (V := fun dq vq _ => match dq with | 140 => vq = .slice (some ⟨gb, 0, none⟩) 10 cp | 141 => vq = .pointer (some ⟨gb, 1, none⟩) | 142 => vq = .int .i64 x1 | 143 => vq = .slice (some ⟨gb, 0, none⟩) 10 cp | 144 => vq = .pointer (some ⟨gb, 2, none⟩) | 145 => vq = .int .i64 x2 | 146 => vq = .slice (some ⟨gb, 0, none⟩) 10 cp | 147 => vq = .pointer (some ⟨gb, 3, none⟩) | 148 => vq = .int .i64 x3 | 149 => vq = .slice (some ⟨gb, 0, none⟩) 10 cp | 150 => vq = .pointer (some ⟨gb, 4, none⟩) | 151 => vq = .int .i64 x4 | 152 => vq = .slice (some ⟨gb, 0, none⟩) 10 cp | 153 => vq = .pointer (some ⟨gb, 5, none⟩) | 154 => vq = .int .i64 x5 | 155 => vq = .slice (some ⟨gb, 0, none⟩) 10 cp | 156 => vq = .pointer (some ⟨gb, 7, none⟩) | 157 => vq = .int .i64 x7 | 158 => vq = .string nm | 159 => vq = .slice (some ⟨gb, 0, none⟩) 10 cp | 160 => vq = .pointer (some ⟨gb, 8, none⟩) | 161 => vq = .int .i64 (N8 : Int) | 162 => vq = .int .i64 ((N8 : Int) - 1) | 163 => vq = .string ct | 164 => vq = .string s | 165 => vq = .int .i64 (p : Int) | 166 => vq = .slice (some ⟨gb, 0, none⟩) 10 cp | 167 => vq = .pointer (some ⟨gb, 8, none⟩) | 168 => vq = .int .i64 (N8 : Int) | 169 => vq = .int .i64 ((p : Int) + (N8 : Int)) | 170 => vq = .int .i64 ((p : Int) + (N8 : Int) + (N9 : Int)) | 171 => vq = .string dd | 172 => vq = .agg #[.int .i64 x1, .int .i64 x2, .int .i64 x3, .int .i64 x4, .int .i64 x5, .int .i64 x7, .string ct, .string dd] | 173 => vq = .int .i64 ((p : Int) + (N8 : Int) + (N9 : Int)) | 5 => vq = .int .i64 ((p : Int) + (N8 : Int) + (N9 : Int)) | 6 => vq = .int .i64 0 | _ => True) (U := fun o w' => o.dst = none → w'.heap[w.heap.size]? = some (.cells #[.int .i64 x1, .int .i64 x2, .int .i64 x3, .int .i64 x4, .int .i64 x5, .int .i64 x7, .string ct, .string dd] 23 (0, 0))) (w' := w2) (.int .i64 ((p : Int) + (N8 : Int) + (N9 : Int))) ?_ ?_ ?_ ?_ ?_
                  · (clear hV hI hC; go_simp <;> (first | rfl | simp | (rw [IntKind.wrap_i64]; omega)))
                  · exact hC
                  · exact Or.inl rfl
                  · intro d hd; cases hd; rfl
                  · intro h; cases h
                case o6 =>
                  intro Q a w2 hC hV hI
                  refine opU_val (C := fun w' => Below w.heap.size w w' ∧ (w'.cell? ⟨gb, 1, none⟩ = some (.int .i64 x1) ∧ w'.cell? ⟨gb, 2, none⟩ = some (.int .i64 x2) ∧ w'.cell? ⟨gb, 3, none⟩ = some (.int .i64 x3) ∧ w'.cell? ⟨gb, 4, none⟩ = some (.int .i64 x4) ∧ w'.cell? ⟨gb, 5, none⟩ = some (.int .i64 x5) ∧ w'.cell? ⟨gb, 7, none⟩ = some (.int .i64 x7) ∧ w'.cell? ⟨gb, 8, none⟩ = some (.int .i64 (N8 : Int))) ∧ (w'.heap[w.heap.size]? = some (.cells zeroC.cells.toArray 23 (0, 0)) ∨ w'.heap[w.heap.size]? = some (.cells #[.int .i64 x1, .int .i64 x2, .int .i64 x3, .int .i64 x4, .int .i64 x5, .int .i64 x7, .string ct, .string dd] 23 (0, 0)))) (St := fun x y => y.heap[w.heap.size]? = x.heap[w.heap.size]? ∨ y.heap[w.heap.size]? = some (.cells #[.int .i64 x1, .int .i64 x2, .int .i64 x3, .int .i64 x4, .int .i64 x5, .int .i64 x7, .string ct, .string dd] 23 (0, 0))) (V := fun dq vq _ => match dq with | 140 => vq = .slice (some ⟨gb, 0, none⟩) 10 cp | 141 => vq = .pointer (some ⟨gb, 1, none⟩) | 142 => vq = .int .i64 x1 | 143 => vq = .slice (some ⟨gb, 0, none⟩) 10 cp | 144 => vq = .pointer (some ⟨gb, 2, none⟩) | 145 => vq = .int .i64 x2 | 146 => vq = .slice (some ⟨gb, 0, none⟩) 10 cp | 147 => vq = .pointer (some ⟨gb, 3, none⟩) | 148 => vq = .int .i64 x3 | 149 => vq = .slice (some ⟨gb, 0, none⟩) 10 cp | 150 => vq = .pointer (some ⟨gb, 4, none⟩) | 151 => vq = .int .i64 x4 | 152 => vq = .slice (some ⟨gb, 0, none⟩) 10 cp | 153 => vq = .pointer (some ⟨gb, 5, none⟩) | 154 => vq = .int .i64 x5 | 155 => vq = .slice (some ⟨gb, 0, none⟩) 10 cp | 156 => vq = .pointer (some ⟨gb, 7, none⟩) | 157 => vq = .int .i64 x7 | 158 => vq = .string nm | 159 => vq = .slice (some ⟨gb, 0, none⟩) 10 cp | 160 => vq = .pointer (some ⟨gb, 8, none⟩) | 161 => vq = .int .i64 (N8 : Int) | 162 => vq = .int .i64 ((N8 : Int) - 1) | 163 => vq = .string ct | 164 => vq = .string s | 165 => vq = .int .i64 (p : Int) | 166 => vq = .slice (some ⟨gb, 0, none⟩) 10 cp | 167 => vq = .pointer (some ⟨gb, 8, none⟩) | 168 => vq = .int .i64 (N8 : Int) | 169 => vq = .int .i64 ((p : Int) + (N8 : Int)) | 170 => vq = .int .i64 ((p : Int) + (N8 : Int) + (N9 : Int)) | 171 => vq = .string dd | 172 => vq = .agg #[.int .i64 x1, .int .i64 x2, .int .i64 x3, .int .i64 x4, .int .i64 x5, .int .i64 x7, .string ct, .string dd] | 173 => vq = .int .i64 ((p : Int) + (N8 : Int) + (N9 : Int)) | 5 => vq = .int .i64 ((p : Int) + (N8 : Int) + (N9 : Int)) | 6 => vq = .int .i64 0 | _ => True) (U := fun o w' => o.dst = none → w'.heap[w.heap.size]? = some (.cells #[.int .i64 x1, .int .i64 x2, .int .i64 x3, .int .i64 x4, .int .i64 x5, .int .i64 x7, .string ct, .string dd] 23 (0, 0))) (w' := w2) (.int .i64 0) ?_ ?_ ?_ ?_ ?_
                  · (clear hV hI hC; go_simp <;> (first | rfl | simp | (rw [IntKind.wrap_i64]; omega)))
                  · exact hC
                  · exact Or.inl rfl
                  · intro d hd; cases hd; rfl
                  · intro h; cases h
              case hend =>
                intro f w9 hC hall huall
                simp only [List.forall_mem_cons] at hall
                obtain ⟨h140, h141, h142, h143, h144, h145, h146, h147, h148, h149, h150, h151, h152, h153, h154, h155, h156, h157, h158, h159, h160, h161, h162, h163, h164, h165, h166, h167, h168, h169, h170, h171, h172, h173, _, h5, h6, _⟩ := hall
                simp only [List.forall_mem_cons] at huall
                obtain ⟨_, _, _, _, _, _, _, _, _, _, _, _, _, _, _, _, _, _, _, _, _, _, _, _, _, _, _, _, _, _, _, _, _, _, hus, _, _, _⟩ := huall
                replace h140 : f 140 = .slice (some ⟨gb, 0, none⟩) 10 cp := h140 140 rfl
                replace h141 : f 141 = .pointer (some ⟨gb, 1, none⟩) := h141 141 rfl
                replace h142 : f 142 = .int .i64 x1 := h142 142 rfl
                replace h143 : f 143 = .slice (some ⟨gb, 0, none⟩) 10 cp := h143 143 rfl
                replace h144 : f 144 = .pointer (some ⟨gb, 2, none⟩) := h144 144 rfl
                replace h145 : f 145 = .int .i64 x2 := h145 145 rfl
                replace h146 : f 146 = .slice (some ⟨gb, 0, none⟩) 10 cp := h146 146 rfl
                replace h147 : f 147 = .pointer (some ⟨gb, 3, none⟩) := h147 147 rfl
                replace h148 : f 148 = .int .i64 x3 := h148 148 rfl
                replace h149 : f 149 = .slice (some ⟨gb, 0, none⟩) 10 cp := h149 149 rfl
                replace h150 : f 150 = .pointer (some ⟨gb, 4, none⟩) := h150 150 rfl
                replace h151 : f 151 = .int .i64 x4 := h151 151 rfl
                replace h152 : f 152 = .slice (some ⟨gb, 0, none⟩) 10 cp := h152 152 rfl
                replace h153 : f 153 = .pointer (some ⟨gb, 5, none⟩) := h153 153 rfl
                replace h154 : f 154 = .int .i64 x5 := h154 154 rfl
                replace h155 : f 155 = .slice (some ⟨gb, 0, none⟩) 10 cp := h155 155 rfl
                replace h156 : f 156 = .pointer (some ⟨gb, 7, none⟩) := h156 156 rfl
                replace h157 : f 157 = .int .i64 x7 := h157 157 rfl
                replace h158 : f 158 = .string nm := h158 158 rfl
                replace h159 : f 159 = .slice (some ⟨gb, 0, none⟩) 10 cp := h159 159 rfl
                replace h160 : f 160 = .pointer (some ⟨gb, 8, none⟩) := h160 160 rfl
                replace h161 : f 161 = .int .i64 (N8 : Int) := h161 161 rfl
                replace h162 : f 162 = .int .i64 ((N8 : Int) - 1) := h162 162 rfl
                replace h163 : f 163 = .string ct := h163 163 rfl
                replace h164 : f 164 = .string s := h164 164 rfl
                replace h165 : f 165 = .int .i64 (p : Int) := h165 165 rfl
                replace h166 : f 166 = .slice (some ⟨gb, 0, none⟩) 10 cp := h166 166 rfl
                replace h167 : f 167 = .pointer (some ⟨gb, 8, none⟩) := h167 167 rfl
                replace h168 : f 168 = .int .i64 (N8 : Int) := h168 168 rfl
                replace h169 : f 169 = .int .i64 ((p : Int) + (N8 : Int)) := h169 169 rfl
                replace h170 : f 170 = .int .i64 ((p : Int) + (N8 : Int) + (N9 : Int)) := h170 170 rfl
                replace h171 : f 171 = .string dd := h171 171 rfl
                replace h172 : f 172 = .agg #[.int .i64 x1, .int .i64 x2, .int .i64 x3, .int .i64 x4, .int .i64 x5, .int .i64 x7, .string ct, .string dd] := h172 172 rfl
                replace h173 : f 173 = .int .i64 ((p : Int) + (N8 : Int) + (N9 : Int)) := h173 173 rfl
                replace h5 : f 5 = .int .i64 ((p : Int) + (N8 : Int) + (N9 : Int)) := h5 5 rfl
                replace h6 : f 6 = .int .i64 0 := h6 6 rfl
                simp only [putAll, Act.put, List.setIfInBounds_toArray, List.set_cons_succ, List.set_cons_zero, h140, h141, h142, h143, h144, h145, h146, h147, h148, h149, h150, h151, h152, h153, h154, h155, h156, h157, h158, h159, h160, h161, h162, h163, h164, h165, h166, h167, h168, h169, h170, h171, h172, h173, h5, h6]
                clear h140 h141 h142 h143 h144 h145 h146 h147 h148 h149 h150 h151 h152 h153 h154 h155 h156 h157 h158 h159 h160 h161 h162 h163 h164 h165 h166 h167 h168 h169 h170 h171 h172 h173 h5 h6
                have R9 : CardO w9 w.heap.size ⟨x1, x2, x3, x4, x5, x7, ct, dd⟩ := hus trivial
                have B9 := hC.1
                clear KC hC hus
                go_wp2_with fail
                refine bodyPost_ret (res_OC3 rfl _ rfl R9) rfl ?_
                exact ⟨by rw [HFv.out]; rfl, B9⟩
            · have qn : (((cutv nm).size : Int) != (N8 : Int) - 1) = true := by simp [hqn]
              have HF : Hid (cdV s j = badV j 4) := Lib.hid (HM3.out (.inr hqn))
              clear HM3 HG3 HNE hqn
              go_quiet ((go_at_call 23; refine Calls.quiet_of_same ((HCut.out _).mono (fun e w' h => ⟨h.1, h.2.symm⟩))))
              obtain ⟨wz, hwq⟩ : ∃ y, y = wq.drewN nq := ⟨_, rfl⟩
              replace R : Hid (CardO wz w.heap.size zeroC) := Lib.hid (by rw [hwq]; exact R.out)
              replace B : Hid (Below w.heap.size w wz) := Lib.hid (by rw [hwq]; exact ⟨B.out.os, B.out.tape, B.out.output, B.out.size, B.out.block⟩)
              rw [← hwq]
              clear hwq n0 n1 n2 n3 n4 n5 n6 n7 n8 n9
              obtain ⟨d0, d1, d2, d3, d4, d5, d6, d7⟩ := (R.out).at.zero
              simp only [zeroC] at d0 d1 d2 d3 d4 d5 d6 d7
              have f0 := (R.out).fz 0
              have f1 := (R.out).fz 1
              have f2 := (R.out).fz 2
              have f3 := (R.out).fz 3
              have f4 := (R.out).fz 4
              have f5 := (R.out).fz 5
              have f6 := (R.out).fz 6
              have f7 := (R.out).fz 7
              have R9 := (R.out).put zeroC
              have B9 := below_putOC (g := w.heap.size) (B.out) (Nat.le_refl _) zeroC
              simp only [putOC, zeroC] at R9 B9
              go_wp2_with fail
              refine bodyPost_ret (res_OC3 rfl _ rfl R9) rfl ?_
              exact ⟨by rw [HF.out]; rfl, B9⟩

          · have q0 : (x0 != 0) = false := by simpa using hz0
            have q6 : (x6 != 0) = true := by simpa using hz6
            have HF := Lib.hid (HZ.out (.inr hz6))
            clear HS HM HG HZ

            obtain ⟨d0, d1, d2, d3, d4, d5, d6, d7⟩ := (R.out).at.zero
            simp only [zeroC] at d0 d1 d2 d3 d4 d5 d6 d7
            have f0 := (R.out).fz 0
            have f1 := (R.out).fz 1
            have f2 := (R.out).fz 2
            have f3 := (R.out).fz 3
            have f4 := (R.out).fz 4
            have f5 := (R.out).fz 5
            have f6 := (R.out).fz 6
            have f7 := (R.out).fz 7
            have R9 := (R.out).put zeroC
            have B9 := below_putOC (g := w.heap.size) (B.out) (Nat.le_refl _) zeroC
            simp only [putOC, zeroC] at R9 B9
            go_wp2_with fail
            refine bodyPost_ret (res_OC3 rfl _ rfl R9) rfl ?_
            exact ⟨by rw [HF.out]; rfl, B9⟩
        · have q0 : (x0 != 0) = true := by simpa using hz0
          have HF := Lib.hid (HZ.out (.inl hz0))
          clear HS HM HG HZ
          obtain ⟨d0, d1, d2, d3, d4, d5, d6, d7⟩ := (R.out).at.zero
          simp only [zeroC] at d0 d1 d2 d3 d4 d5 d6 d7
          have f0 := (R.out).fz 0
          have f1 := (R.out).fz 1
          have f2 := (R.out).fz 2
          have f3 := (R.out).fz 3
          have f4 := (R.out).fz 4
          have f5 := (R.out).fz 5
          have f6 := (R.out).fz 6
          have f7 := (R.out).fz 7
          have R9 := (R.out).put zeroC
          have B9 := below_putOC (g := w.heap.size) (B.out) (Nat.le_refl _) zeroC
          simp only [putOC, zeroC] at R9 B9
          go_wp2_with fail
          refine bodyPost_ret (res_OC3 rfl _ rfl R9) rfl ?_
          exact ⟨by rw [HF.out]; rfl, B9⟩
  · have q := mg_ne hm
    have HF : Hid (cdV s j = badV j 4) := Lib.hid (cdV_bad (cd_magic hj hm))
    have hS6 := HS6.out
    generalize cdV s j = r at HF
    generalize s.extract j (j + 6) = mg at hS6 q
    clear hm HS6
    simp only [zeroC, Card.cells] at R B
    go_enter Try.func8, Try.ntmps8
    obtain ⟨d0, d1, d2, d3, d4, d5, d6, d7⟩ := (show CardO _ w.heap.size zeroC from R.out).at.zero
    simp only [zeroC] at d0 d1 d2 d3 d4 d5 d6 d7
    have f0 := (show CardO _ w.heap.size zeroC from R.out).fz 0
    have f1 := (show CardO _ w.heap.size zeroC from R.out).fz 1
    have f2 := (show CardO _ w.heap.size zeroC from R.out).fz 2
    have f3 := (show CardO _ w.heap.size zeroC from R.out).fz 3
    have f4 := (show CardO _ w.heap.size zeroC from R.out).fz 4
    have f5 := (show CardO _ w.heap.size zeroC from R.out).fz 5
    have f6 := (show CardO _ w.heap.size zeroC from R.out).fz 6
    have f7 := (show CardO _ w.heap.size zeroC from R.out).fz 7
    go_wp2_with fail
    refine bodyPost_ret (res_OC3 rfl _ rfl R.out) rfl ?_
    exact ⟨by rw [HF.out]; rfl, B.out⟩
end Go.Proofs.Ytcnmbolmgifgfaa
