/- Texts joined: GetCdS, GetCdI, RdOdc, UserI, EntOkI, CpioF, OdcF, PutOdcS, CatchP, RegPan, PutCdI. -/
import Derived.BigRegion
import Derived.BigQuiet
import Derived.Deep.DeepCutAuto
import Derived.OwnWalk
import Derived.Test.YtcnmbolmgifgfabGreatDoorPartMath
import Derived.Laws.MakeOwn
import Derived.Test.YtcnmbolmgifgfabGreatDoorWhoS
import Derived.Test.YtcnmbolmgifgfabGreatDoorVis
import Derived.Test.YtcnmbolmgifgfabGreatDoorEntOk
import Derived.Test.YtcnmbolmgifgfabGreatDoorFindE
import Derived.Test.YtcnmbolmgifgfabGreatDoorCardsS
import Derived.Defers
import Derived.Recover
import Derived.Test.YtcnmbolmgifgfabGreatDoorRegSl
import Derived.Test.YtcnmbolmgifgfabGreatDoorJG1
/- Contract of spec.GetCard. -/
namespace Go.Proofs.YtcnmbolmgifgfabGreatDoor
open Go.ChangeShapes Go.WideShapes Go.ChangeAt Go.RowKit Go.Deep

def cdV (s : ByteArray) (i : Int) : Value := .tuple #[.agg (cdCard s i).cells.toArray, .int .i64 (cdNext s i), .int .i64 (cdCode s i)]
def badV (i c : Int) : Value := .tuple #[.agg zeroC.cells.toArray, .int .i64 i, .int .i64 c]
theorem cdV_bad {s : ByteArray} {i c : Int} (h : badCd s i c) : cdV s i = badV i c := by rw [cdV, h.1, h.2.1, h.2.2]; rfl
theorem magic_tl : magicB.toList = [48, 55, 48, 55, 48, 55] := by rw [ba_toList]; rfl
theorem mg_eq {a : ByteArray} (h : a = magicB) : (a.toList == [48, 55, 48, 55, 48, 55]) = true := by rw [h, magic_tl]; rfl
theorem mg_ne {a : ByteArray} (h : ¬ a = magicB) : (a.toList == [48, 55, 48, 55, 48, 55]) = false := by
  rw [← magic_tl]
  simp only [beq_eq_false_iff_ne, ne_eq]
  intro e
  apply h
  rw [ba_toList, ba_toList] at e
  exact ba_ext e
theorem Tryz.infoN : (Tryz.prog.info? 3).map (fun i => (i.zero, i.size, i.bytes)) = some (some (.int .i64 0), 1, 8) := by kernel_rfl
def nlC (s : ByteArray) (j : Nat) : Nat → List Value
  | 0 => []
  | k + 1 => nlC s j k ++ [.int .i64 (fN s j k)]
theorem nlC_at (s : ByteArray) (j : Nat) : ∀ (n m : Nat), m < n → (nlC s j n)[m]? = some (.int .i64 (fN s j m)) := by
  intro n
  induction n with
  | zero => intro m h; omega
  | succ n ih =>
    intro m h
    have hl : (nlC s j n).length = n := by
      clear ih h m
      induction n with
      | zero => rfl
      | succ n ih => simp [nlC, ih]
    rw [nlC]
    by_cases e : m = n
    · subst e
      rw [List.getElem?_append_right (by omega), hl]
      simp
    · rw [List.getElem?_append_left (by omega)]
      exact ih m (by omega)
theorem cell_oneN (w : World) (v : Value) (t : TypeId) : ∀ j u, [v][j]? = some u → (w.alloc (.cells #[v] t)).cell? ((⟨w.heap.size, 0, none⟩ : Addr).add j) = some u := by
  intro j u hj
  match j, hj with
  | 0, hj => simp at hj; subst hj; simp [Addr.add]
  | j + 1, hj => simp at hj

set_option maxHeartbeats 6400000 in
set_option maxRecDepth 8000 in
theorem getCard_short (s : ByteArray) (i : Int) (w : World) (hs : s.size ≤ 1048576) (hi0 : -9223372036854775808 ≤ i) (hi1 : i ≤ 9223372036854775807) (hc : i < 0 ∨ (s.size : Int) < i + 76) :
    Calls Tryz.prog 36 #[.string s, .int .i64 i] w fun e w' => e = .returned (cdV s i) ∧ Below w.heap.size w w' := by
  have HF : Hid (cdV s i = badV i 1) := Lib.hid (cdV_bad (cd_cut hc))
  have R := Lib.hid (CardO.new w zeroC)
  have B : Hid (Below w.heap.size w (w.alloc (.cells zeroC.cells.toArray 48))) := Lib.hid ((Below.refl _ _).alloc (Nat.le_refl _) _)
  generalize cdV s i = r at HF
  by_cases h1 : i < 0
  · clear hc
    simp only [zeroC, Card.cells] at R B
    go_enter Tryz.func36, Tryz.ntmps36
    obtain ⟨d0, d1, d2, d3, d4, d5, d6, d7⟩ := (show CardO _ w.heap.size zeroC from R.out).at.zero
    simp only [zeroC] at d0 d1 d2 d3 d4 d5 d6 d7
    have f0 := (show CardO _ w.heap.size zeroC from R.out).fz 0
    have f1 := (show CardO _ w.heap.size zeroC from R.out).fz 1
    have f2 := (show CardO _ w.heap.size zeroC from R.out).fz 2
    have f3 := (show CardO _ w.heap.size zeroC from R.out).fz 3
    have f4 := (show CardO _ w.heap.size zeroC from R.out).fz 4
    have f5 := (show CardO _ w.heap.size zeroC from R.out).fz 5
    have f6 := (show CardO _ w.heap.size zeroC from R.out).fz 6
    have f7 := (show CardO _ w.heap.size zeroC from R.out).fz 7
    go_wp2_with fail
    refine bodyPost_ret (res_OC3 rfl _ rfl R.out) rfl ?_
    exact ⟨by rw [HF.out]; rfl, B.out⟩
  · have h2 : (s.size : Int) - 76 < i := by omega
    clear hc
    simp only [zeroC, Card.cells] at R B
    go_enter Tryz.func36, Tryz.ntmps36
    obtain ⟨d0, d1, d2, d3, d4, d5, d6, d7⟩ := (show CardO _ w.heap.size zeroC from R.out).at.zero
    simp only [zeroC] at d0 d1 d2 d3 d4 d5 d6 d7
    have f0 := (show CardO _ w.heap.size zeroC from R.out).fz 0
    have f1 := (show CardO _ w.heap.size zeroC from R.out).fz 1
    have f2 := (show CardO _ w.heap.size zeroC from R.out).fz 2
    have f3 := (show CardO _ w.heap.size zeroC from R.out).fz 3
    have f4 := (show CardO _ w.heap.size zeroC from R.out).fz 4
    have f5 := (show CardO _ w.heap.size zeroC from R.out).fz 5
    have f6 := (show CardO _ w.heap.size zeroC from R.out).fz 6
    have f7 := (show CardO _ w.heap.size zeroC from R.out).fz 7
    go_wp2_with fail
    refine bodyPost_ret (res_OC3 rfl _ rfl R.out) rfl ?_
    exact ⟨by rw [HF.out]; rfl, B.out⟩
set_option maxHeartbeats 6400000 in
set_option maxRecDepth 8000 in
theorem getCard_spec (s : ByteArray) (j : Nat) (w : World) (hs : s.size ≤ 1048576) (hj : j + 76 ≤ s.size) :
    Calls Tryz.prog 36 #[.string s, .int .i64 (j : Int)] w fun e w' => e = .returned (cdV s j) ∧ Below w.heap.size w w' := by
  obtain ⟨i0, hi0, hz0, hz1, hz2⟩ := info_parts Tryz.infoN
  have R := Lib.hid (CardO.new w zeroC)
  have B : Hid (Below w.heap.size w (w.alloc (.cells zeroC.cells.toArray 48))) := Lib.hid ((Below.refl _ _).alloc (Nat.le_refl _) _)
  have h2 : ¬ (s.size : Int) - 76 < (j : Int) := by omega
  have HS6 := Lib.hid (fun w => sl_at s (j : Int) ((j : Int) + 6) j (j + 6) rfl (by omega) (by omega) (by omega) w)
  by_cases hm : s.extract j (j + 6) = magicB
  · have q := mg_eq hm
    have HFld := Lib.hid (fun k hk h => cdV_bad (cd_field hj hm (k := k) hk h))
    have HZe := Lib.hid (fun ho h => cdV_bad (cd_zero hj hm ho h))
    have HSh := Lib.hid (fun ho hz h => cdV_bad (cd_short hj hm ho hz h))
    have HNm := Lib.hid (fun ho hz h hn => cdV_bad (cd_name hj hm ho hz h hn))
    have HGd := Lib.hid (fun ho hz h hn => cd_good hj hm ho hz h hn)
    have hS6 := HS6.out
    generalize s.extract j (j + 6) = mg at hS6 q
    clear hm HS6
    simp only [zeroC, Card.cells] at R B
    go_enter Tryz.func36, Tryz.ntmps36
    go_wp2_with fail
    clear q hS6
    refine (wide_spec _).mono ?_
    rintro e w1 ⟨G, rfl, hG1, hG2, hb⟩
    have NB := (Below.refl (w.alloc (.cells #[.int .i64 0, .int .i64 0, .int .i64 0, .int .i64 0, .int .i64 0, .int .i64 0, .string ⟨#[]⟩, .string ⟨#[]⟩] 48)).heap.size (w.alloc (.cells #[.int .i64 0, .int .i64 0, .int .i64 0, .int .i64 0, .int .i64 0, .int .i64 0, .string ⟨#[]⟩, .string ⟨#[]⟩] 48))).alloc (Nat.le_refl _) (.cells #[] 3)
    have O0 := World.ownsRow_lit (base := w.heap.size + 1) (e := 3) (size := 1) (w.alloc (.cells #[.int .i64 0, .int .i64 0, .int .i64 0, .int .i64 0, .int .i64 0, .int .i64 0, .string ⟨#[]⟩, .string ⟨#[]⟩] 48)) #[] 0 (by simp) (by simp) rfl
    have O1 : Hid (w1.ownsRow (w.heap.size + 1) 3 1 (.slice (some ⟨w.heap.size + 1, 0, none⟩) 0 0) 0 (nlC s j 0)) := Lib.hid (by
      have h := World.ownsRow.kept O0 (row := none) ⟨hb.os, hb.tape, hb.output, hb.size, fun k hk _ => hb.block k hk⟩ (.inr (by simp [Value.ownBlock]))
      rw [show (w.alloc (.cells #[.int .i64 0, .int .i64 0, .int .i64 0, .int .i64 0, .int .i64 0, .int .i64 0, .string ⟨#[]⟩, .string ⟨#[]⟩] 48)).heap.size = w.heap.size + 1 from by simp] at h
      exact h)
    have RW : Hid (CardO w1 w.heap.size zeroC) := Lib.hid (CardO.below (CardO.below (show CardO _ w.heap.size zeroC from R.out) NB (by simp)) hb (by simp; omega))
    have BW := Lib.hid (btC (btC B.out NB) hb)
    have hG3 : w.heap.size + 2 ≤ G := by simpa using hG1
    have WR := Lib.hid (RowN.of (l := wideC) hG2)
    have zG := (Array.getElem?_eq_some_iff.1 hG2).1
    clear hb hG1 hG2 NB O0 R B
    go_wp2_with fail
    go_loopw [7, 8, 10, 11, 12] (fun v ta u _ _ wr => ∃ k : Nat, u = .int .i64 k ∧ k ≤ 10 ∧ ta = .int .i64 ((j + 6 + cum k : Nat) : Int) ∧ (∀ m, m < k → fO s j m = true) ∧ wr.ownsRow (w.heap.size + 1) 3 1 v k (nlC s j k) ∧ (∃ gb cp, v = .slice (some ⟨gb, 0, none⟩) k cp ∧ gb ≠ G) ∧ RowN wr G wideC ∧ G < wr.heap.size ∧ CardO wr w.heap.size zeroC ∧ Below w.heap.size w wr) (fun _ _ u _ _ _ => 10 - (intOf u).toNat)
    case atStart => exact ⟨0, rfl, by omega, by rw [show cum 0 = 0 from rfl]; go_num, fun m hm => by omega, O1.out, ⟨_, _, rfl, by omega⟩, WR.out, zG, RW.out, BW.out⟩
    case round =>
      obtain ⟨k, rfl, hk, rfl, hok, ho, ⟨gb, cp, rfl, hgb⟩, hwr, zG2, hr, hb⟩ := hrel
      clear O1 RW BW WR zG
      have OK := Lib.hid hok
      have O := Lib.hid ho
      have WR := Lib.hid hwr
      have R := Lib.hid hr
      have B := Lib.hid hb
      have hszB := B.out.size
      clear hok ho hwr hr hb
      by_cases hlt : k < 10
      · have hlt2 : (k : Int) < 10 := by omega
        obtain ⟨hc1, hc2, hc3, hc4⟩ := cum_wid k hlt
        have cW := WR.out k _ hc4
        have HFk := Lib.hid (HFld.out k hlt)
        have HOn : Hid (fO s j k = true → ∀ m, m < k + 1 → fO s j m = true) := Lib.hid (fun h m hm => by
          by_cases e : m = k
          · subst e; exact h
          · exact OK.out m (by omega))
        have HGo := Lib.hid (fun w => getOct_spec (fB s j k) w (by unfold fB; rw [ByteArray.size_extract]; omega))
        have HNl : Hid (nlC s j (k + 1) = nlC s j k ++ [.int .i64 (fN s j k)]) := Lib.hid rfl
        rw [show (getOctv (fB s j k).data.toList).1 = fN s j k from rfl, show (getOctv (fB s j k).data.toList).2 = fO s j k from rfl] at HGo
        have HSl := Lib.hid (fun w => sl_at s ((j + 6 + cum k : Nat) : Int) (((j + 6 + cum k : Nat) : Int) + ((wid k : Nat) : Int)) (j + 6 + cum k) (j + 6 + cum k + wid k) rfl (by omega) (by omega) (by omega) w)
        rw [show s.extract (j + 6 + cum k) (j + 6 + cum k + wid k) = fB s j k from rfl] at HSl
        have hS := HSl.out
        have hcn : j + 6 + cum (k + 1) = j + 6 + cum k + wid k := by omega
        have HCn := Lib.hid hcn
        have hp9 : j + 6 + cum k + wid k ≤ s.size := by omega
        generalize fB s j k = fb at hS HGo
        generalize fO s j k = okk at HFk HOn HGo
        generalize fN s j k = x at HNl HGo
        obtain ⟨pp, hpp⟩ : ∃ q, j + 6 + cum k = q := ⟨_, rfl⟩
        rw [hpp] at hS hp9 HCn ⊢
        generalize wid k = wk at cW hS hp9 HCn hc1 hc3 hc4
        have HC4 := Lib.hid hc4
        clear HSl hc4 hcn hpp hc1 hc2
        go_wp2_with fail
        refine (HGo.out _).mono ?_
        rintro e w3 ⟨rfl, rfl⟩
        cases okk with
        | false =>
          have HF := Lib.hid (HFk.out rfl)
          clear HFk HOn HGo hS cW

          obtain ⟨d0, d1, d2, d3, d4, d5, d6, d7⟩ := (R.out).at.zero
          simp only [zeroC] at d0 d1 d2 d3 d4 d5 d6 d7
          have f0 := (R.out).fz 0
          have f1 := (R.out).fz 1
          have f2 := (R.out).fz 2
          have f3 := (R.out).fz 3
          have f4 := (R.out).fz 4
          have f5 := (R.out).fz 5
          have f6 := (R.out).fz 6
          have f7 := (R.out).fz 7
          have R9 := (R.out).put zeroC
          have B9 := below_putOC (g := w.heap.size) (B.out) (Nat.le_refl _) zeroC
          simp only [putOC, zeroC] at R9 B9
          go_wp2_with fail
          refine bodyPost_ret (res_OC3 rfl _ rfl R9) rfl ?_
          exact ⟨by rw [HF.out]; rfl, B9⟩
        | true =>
          have HOm := Lib.hid (HOn.out rfl)
          clear HFk HOn HGo hS
          go_wp2_with (at_builtin; refine wpList_append_own_at _ rfl _ _ 77 rfl (w.heap.size + 1) 3 i0 (.int .i64 0) 1 8 Tryz.underlying77 hi0 hz0 hz1 hz2 rfl (by decide) _ _ _ rfl (World.ownsRow.alloc O.out _) ⟨wr.heap.size, 0, none⟩ 1 1 [.int .i64 x] rfl rfl ?c1 ?c2 ?c3 ?c4 ?c5 ?_)
          case c1 => intro jj uu hu; exact cell_oneN _ _ _ jj uu hu
          case c2 => intro u hu; simp at hu; subst hu; rfl
          case c3 => simp only [maxLen]; omega
          case c4 => omega
          case c5 => simp; omega
          intro v4 w4 hown4 hgrow4 _ hob4
          have NA := (Below.refl wr.heap.size wr).alloc (Nat.le_refl _) (.cells #[.int .i64 x] 3)
          have hbk : ∀ b, (Value.slice (some ⟨gb, 0, none⟩) k cp).ownBlock = some b → w.heap.size + 1 ≤ b := fun b hb => (World.ownsRow.lt O.out b hb).1
          have O4 : Hid (w4.ownsRow (w.heap.size + 1) 3 1 v4 (k + 1) (nlC s j (k + 1))) := Lib.hid (by rw [HNl.out]; exact hown4)
          have V4 : Hid (∃ gb cp, v4 = .slice (some ⟨gb, 0, none⟩) (k + 1) cp ∧ gb ≠ G) := Lib.hid (by
            rcases hown4.2 with ⟨_, hn⟩ | ⟨g', cap', cur, rfl, _⟩
            · omega
            · refine ⟨g', cap', rfl, ?_⟩
              rcases hob4 with h | h
              · simp only [Value.ownBlock, Option.some.injEq] at h; omega
              · simp only [Value.ownBlock, Option.some.injEq] at h; first | omega | (simp at h; omega))
          have W4 : Hid (RowN w4 G wideC) := Lib.hid (fun i x hx => by
            have h1 := (NA.cell (p := ⟨G, i, none⟩) zG2).trans (WR.out i x hx)
            exact (World.cell?_of_block (hgrow4.block G (by simp; omega) (by simp [Value.ownBlock]; omega))).trans h1)
          have R4 := Lib.hid ((R.out.below NA R.out.lt).grown hgrow4 (by simp [Value.ownBlock]; have := hbk gb rfl; omega))
          have B4 : Hid (Below w.heap.size w w4) := Lib.hid ((btC B.out NA).grown hgrow4 (by simp; omega) (fun b hb => by have := hbk b hb; omega))
          have zG4 : G < w4.heap.size := Nat.lt_of_lt_of_le zG2 (Nat.le_trans NA.size hgrow4.size)
          clear hown4 hgrow4 hob4 O R B WR NA hbk
          have cW4 := W4.out k _ HC4.out
          clear cW
          go_wp2_with fail
          go_roundw
          case rel => exact ⟨k + 1, by go_num, by omega, by rw [HCn.out]; go_num, HOm.out, O4.out, V4.out, W4.out, zG4, R4.out, B4.out⟩
          case measure => simp [intOf]; omega
      · obtain rfl : k = 10 := by omega
        have hlt2 : ¬ ((10 : Nat) : Int) < 10 := by omega
        have e76 : j + 6 + cum 10 = j + 76 := by have h : cum 10 = 70 := rfl; omega
        rw [e76]
        have HOk : Hid (∀ m, m < 10 → fO s j m = true) := Lib.hid OK.out
        have HN : Hid (∀ m, m < 10 → wr.cell? ⟨gb, m, none⟩ = some (.int .i64 (fN s j m))) := Lib.hid (fun m hm => by
          have h := World.ownsRow.cells O.out (g := gb) rfl m _ (nlC_at s j 10 m hm)
          rwa [show (⟨gb, 0, none⟩ : Addr).add m = ⟨gb, m, none⟩ from by unfold Addr.add; split <;> simp_all] at h)
        have hGb : w.heap.size + 1 ≤ gb := (World.ownsRow.lt O.out gb rfl).1
        have HZ := Lib.hid (HZe.out HOk.out)
        have HS := Lib.hid (HSh.out HOk.out)
        have HM := Lib.hid (HNm.out HOk.out)
        have HG : Hid (fN s j 0 = 0 ∧ fN s j 6 = 0 → _) := Lib.hid (HGd.out HOk.out)
        obtain ⟨N8, hN8⟩ := Int.eq_ofNat_of_zero_le (fN_bd s j 8).1
        obtain ⟨N9, hN9⟩ := Int.eq_ofNat_of_zero_le (fN_bd s j 9).1
        have hb8 := (fN_bd s j 8).2
        have hb9 := (fN_bd s j 9).2
        rw [hN8] at hb8 HS HM HG
        rw [hN9] at hb9 HS HM HG
        have HNE : Hid (s.extract (j + 76) (j + 76 + N8) = nameB s j) := Lib.hid (by unfold nameB; rw [hN8, Int.toNat_natCast])
        have n0 := HN.out 0 (by omega)
        have n1 := HN.out 1 (by omega)
        have n2 := HN.out 2 (by omega)
        have n3 := HN.out 3 (by omega)
        have n4 := HN.out 4 (by omega)
        have n5 := HN.out 5 (by omega)
        have n6 := HN.out 6 (by omega)
        have n7 := HN.out 7 (by omega)
        have n8 := HN.out 8 (by omega)
        have n9 := HN.out 9 (by omega)
        rw [hN8] at n8
        rw [hN9] at n9
        clear HFld HZe HSh HNm HGd HN OK WR O HOk hN8 hN9
        generalize nameB s j = nm at HM HG HNE
        generalize fN s j 0 = x0 at n0 HZ HS HM HG
        generalize fN s j 6 = x6 at n6 HZ HS HM HG
        generalize fN s j 1 = x1 at n1 HG
        generalize fN s j 2 = x2 at n2 HG
        generalize fN s j 3 = x3 at n3 HG
        generalize fN s j 4 = x4 at n4 HG
        generalize fN s j 5 = x5 at n5 HG
        generalize fN s j 7 = x7 at n7 HG
        by_cases hz0 : x0 = 0
        · by_cases hz6 : x6 = 0
          · have q0 : (x0 != 0) = false := by simpa using hz0
            have q6 : (x6 != 0) = false := by simpa using hz6
            have HS2 := Lib.hid (HS.out ⟨hz0, hz6⟩)
            have HM2 := Lib.hid (HM.out ⟨hz0, hz6⟩)
            have HG2 := Lib.hid (HG.out ⟨hz0, hz6⟩)
            clear HS HM HG HZ
            obtain ⟨p, hp⟩ : ∃ p, j + 76 = p := ⟨_, rfl⟩
            rw [hp] at HNE ⊢
            by_cases c8 : (s.size : Int) - (p : Int) < (N8 : Int)
            · have HF : Hid (cdV s j = badV j 1) := Lib.hid (HS2.out (by omega))
              clear HS2 HM2 HG2 HNE
              go_upto_region 18 with fail
              go_quiet (fail)
              obtain ⟨wq, hwq⟩ : ∃ y, y = wr.drewN nq := ⟨_, rfl⟩
              replace R : Hid (CardO wq w.heap.size zeroC) := Lib.hid (by rw [hwq]; exact R.out)
              replace B : Hid (Below w.heap.size w wq) := Lib.hid (by rw [hwq]; exact ⟨B.out.os, B.out.tape, B.out.output, B.out.size, B.out.block⟩)
              rw [← hwq]
              clear hwq n0 n1 n2 n3 n4 n5 n6 n7 n8 n9
              obtain ⟨d0, d1, d2, d3, d4, d5, d6, d7⟩ := (R.out).at.zero
              simp only [zeroC] at d0 d1 d2 d3 d4 d5 d6 d7
              have f0 := (R.out).fz 0
              have f1 := (R.out).fz 1
              have f2 := (R.out).fz 2
              have f3 := (R.out).fz 3
              have f4 := (R.out).fz 4
              have f5 := (R.out).fz 5
              have f6 := (R.out).fz 6
              have f7 := (R.out).fz 7
              have R9 := (R.out).put zeroC
              have B9 := below_putOC (g := w.heap.size) (B.out) (Nat.le_refl _) zeroC
              simp only [putOC, zeroC] at R9 B9
              go_wp2_with fail
              refine bodyPost_ret (res_OC3 rfl _ rfl R9) rfl ?_
              exact ⟨by rw [HF.out]; rfl, B9⟩
            by_cases c9 : (s.size : Int) - (p : Int) - (N8 : Int) < (N9 : Int)
            · have HF : Hid (cdV s j = badV j 1) := Lib.hid (HS2.out (by omega))
              clear HS2 HM2 HG2 HNE
              go_upto_region 18 with fail
              go_quiet (fail)
              obtain ⟨wq, hwq⟩ : ∃ y, y = wr.drewN nq := ⟨_, rfl⟩
              replace R : Hid (CardO wq w.heap.size zeroC) := Lib.hid (by rw [hwq]; exact R.out)
              replace B : Hid (Below w.heap.size w wq) := Lib.hid (by rw [hwq]; exact ⟨B.out.os, B.out.tape, B.out.output, B.out.size, B.out.block⟩)
              rw [← hwq]
              clear hwq n0 n1 n2 n3 n4 n5 n6 n7 n8 n9
              obtain ⟨d0, d1, d2, d3, d4, d5, d6, d7⟩ := (R.out).at.zero
              simp only [zeroC] at d0 d1 d2 d3 d4 d5 d6 d7
              have f0 := (R.out).fz 0
              have f1 := (R.out).fz 1
              have f2 := (R.out).fz 2
              have f3 := (R.out).fz 3
              have f4 := (R.out).fz 4
              have f5 := (R.out).fz 5
              have f6 := (R.out).fz 6
              have f7 := (R.out).fz 7
              have R9 := (R.out).put zeroC
              have B9 := below_putOC (g := w.heap.size) (B.out) (Nat.le_refl _) zeroC
              simp only [putOC, zeroC] at R9 B9
              go_wp2_with fail
              refine bodyPost_ret (res_OC3 rfl _ rfl R9) rfl ?_
              exact ⟨by rw [HF.out]; rfl, B9⟩
            have HM3 := Lib.hid (HM2.out (by omega))
            have HG3 := Lib.hid (HG2.out (by omega))
            clear HS2 HM2 HG2
            have hpz : p + N8 + N9 ≤ s.size := by omega
            have hSn : ∀ w, _ := fun w => sl_at s (p : Int) ((p : Int) + (N8 : Int)) p (p + N8) rfl (by omega) (by omega) (by omega) w
            rw [HNE.out] at hSn
            have hnz : nm.size = N8 := by rw [← HNE.out, ByteArray.size_extract]; omega
            have HCut := Lib.hid (fun w => cut_spec nm w (by omega))
            have hcl := cutv_le nm
            go_upto_region 18 with fail
            go_quiet (fail)
            obtain ⟨wq, hwq⟩ : ∃ y, y = wr.drewN nq := ⟨_, rfl⟩
            replace R : Hid (CardO wq w.heap.size zeroC) := Lib.hid (by rw [hwq]; exact R.out)
            replace B : Hid (Below w.heap.size w wq) := Lib.hid (by rw [hwq]; exact ⟨B.out.os, B.out.tape, B.out.output, B.out.size, B.out.block⟩)
            replace n0 := (show wq.cell? ⟨gb, 0, none⟩ = some (.int .i64 x0) from by rw [hwq]; exact n0)
            replace n1 := (show wq.cell? ⟨gb, 1, none⟩ = some (.int .i64 x1) from by rw [hwq]; exact n1)
            replace n2 := (show wq.cell? ⟨gb, 2, none⟩ = some (.int .i64 x2) from by rw [hwq]; exact n2)
            replace n3 := (show wq.cell? ⟨gb, 3, none⟩ = some (.int .i64 x3) from by rw [hwq]; exact n3)
            replace n4 := (show wq.cell? ⟨gb, 4, none⟩ = some (.int .i64 x4) from by rw [hwq]; exact n4)
            replace n5 := (show wq.cell? ⟨gb, 5, none⟩ = some (.int .i64 x5) from by rw [hwq]; exact n5)
            replace n6 := (show wq.cell? ⟨gb, 6, none⟩ = some (.int .i64 x6) from by rw [hwq]; exact n6)
            replace n7 := (show wq.cell? ⟨gb, 7, none⟩ = some (.int .i64 x7) from by rw [hwq]; exact n7)
            replace n8 := (show wq.cell? ⟨gb, 8, none⟩ = some (.int .i64 (N8 : Int)) from by rw [hwq]; exact n8)
            replace n9 := (show wq.cell? ⟨gb, 9, none⟩ = some (.int .i64 (N9 : Int)) from by rw [hwq]; exact n9)
            rw [← hwq]
            clear hwq
            go_upto_region 21 with fail
            clear hSn
            by_cases hq8 : N8 = 0
            · have q8 : ((N8 : Int) == 0) = true := by simp [hq8]
              have HF : Hid (cdV s j = badV j 4) := Lib.hid (HM3.out (.inl (by omega)))
              clear HM3 HG3 HNE
              go_quiet (fail)
              obtain ⟨wz, hwq⟩ : ∃ y, y = wq.drewN nq := ⟨_, rfl⟩
              replace R : Hid (CardO wz w.heap.size zeroC) := Lib.hid (by rw [hwq]; exact R.out)
              replace B : Hid (Below w.heap.size w wz) := Lib.hid (by rw [hwq]; exact ⟨B.out.os, B.out.tape, B.out.output, B.out.size, B.out.block⟩)
              rw [← hwq]
              clear hwq n0 n1 n2 n3 n4 n5 n6 n7 n8 n9
              obtain ⟨d0, d1, d2, d3, d4, d5, d6, d7⟩ := (R.out).at.zero
              simp only [zeroC] at d0 d1 d2 d3 d4 d5 d6 d7
              have f0 := (R.out).fz 0
              have f1 := (R.out).fz 1
              have f2 := (R.out).fz 2
              have f3 := (R.out).fz 3
              have f4 := (R.out).fz 4
              have f5 := (R.out).fz 5
              have f6 := (R.out).fz 6
              have f7 := (R.out).fz 7
              have R9 := (R.out).put zeroC
              have B9 := below_putOC (g := w.heap.size) (B.out) (Nat.le_refl _) zeroC
              simp only [putOC, zeroC] at R9 B9
              go_wp2_with fail
              refine bodyPost_ret (res_OC3 rfl _ rfl R9) rfl ?_
              exact ⟨by rw [HF.out]; rfl, B9⟩
            have q8 : ((N8 : Int) == 0) = false := by simp [hq8]
            by_cases hqn : ((cutv nm).size : Int) = (N8 : Int) - 1
            · have qn : (((cutv nm).size : Int) != (N8 : Int) - 1) = false := by simp [hqn]
              have HF := Lib.hid (HG3.out (by simp; omega))
              have hcz : ((N8 : Int) - 1).toNat = (cutv nm).size := by omega
              have HSc := Lib.hid (fun w => cut_to nm ((N8 : Int) - 1) hcz (by omega) (by omega) w)
              have HSd := Lib.hid (fun w => sl_at s ((p : Int) + (N8 : Int)) ((p : Int) + (N8 : Int) + (N9 : Int)) (p + N8) (p + N8 + N9) rfl (by omega) (by omega) hpz w)
              have HFv : Hid (cdV s j = .tuple #[.agg #[.int .i64 x1, .int .i64 x2, .int .i64 x3, .int .i64 x4, .int .i64 x5, .int .i64 x7, .string (cutv nm), .string (s.extract (p + N8) (p + N8 + N9))], .int .i64 ((p : Int) + (N8 : Int) + (N9 : Int)), .int .i64 0]) := Lib.hid (by
                rw [cdV, HF.out.1, HF.out.2.1, HF.out.2.2, ← hp]
                simp [Card.cells])
              clear HF HM3 HG3 HNE hqn
              go_quiet ((go_at_call 68; refine Calls.quiet_of_same ((HCut.out _).mono (fun e w' h => ⟨h.1, h.2.symm⟩))))
              obtain ⟨wx, hwq⟩ : ∃ y, y = wq.drewN nq := ⟨_, rfl⟩
              replace R : Hid (CardO wx w.heap.size zeroC) := Lib.hid (by rw [hwq]; exact R.out)
              replace B : Hid (Below w.heap.size w wx) := Lib.hid (by rw [hwq]; exact ⟨B.out.os, B.out.tape, B.out.output, B.out.size, B.out.block⟩)
              replace n0 := (show wx.cell? ⟨gb, 0, none⟩ = some (.int .i64 x0) from by rw [hwq]; exact n0)
              replace n1 := (show wx.cell? ⟨gb, 1, none⟩ = some (.int .i64 x1) from by rw [hwq]; exact n1)
              replace n2 := (show wx.cell? ⟨gb, 2, none⟩ = some (.int .i64 x2) from by rw [hwq]; exact n2)
              replace n3 := (show wx.cell? ⟨gb, 3, none⟩ = some (.int .i64 x3) from by rw [hwq]; exact n3)
              replace n4 := (show wx.cell? ⟨gb, 4, none⟩ = some (.int .i64 x4) from by rw [hwq]; exact n4)
              replace n5 := (show wx.cell? ⟨gb, 5, none⟩ = some (.int .i64 x5) from by rw [hwq]; exact n5)
              replace n6 := (show wx.cell? ⟨gb, 6, none⟩ = some (.int .i64 x6) from by rw [hwq]; exact n6)
              replace n7 := (show wx.cell? ⟨gb, 7, none⟩ = some (.int .i64 x7) from by rw [hwq]; exact n7)
              replace n8 := (show wx.cell? ⟨gb, 8, none⟩ = some (.int .i64 (N8 : Int)) from by rw [hwq]; exact n8)
              replace n9 := (show wx.cell? ⟨gb, 9, none⟩ = some (.int .i64 (N9 : Int)) from by rw [hwq]; exact n9)
              rw [← hwq]
              clear hwq
              clear HCut qn q8
              go_upto_region 23 with fail
              go_quiet (fail)
              obtain ⟨wy, hwq⟩ : ∃ y, y = wx.drewN nq := ⟨_, rfl⟩
              replace R : Hid (CardO wy w.heap.size zeroC) := Lib.hid (by rw [hwq]; exact R.out)
              replace B : Hid (Below w.heap.size w wy) := Lib.hid (by rw [hwq]; exact ⟨B.out.os, B.out.tape, B.out.output, B.out.size, B.out.block⟩)
              replace n0 := (show wy.cell? ⟨gb, 0, none⟩ = some (.int .i64 x0) from by rw [hwq]; exact n0)
              replace n1 := (show wy.cell? ⟨gb, 1, none⟩ = some (.int .i64 x1) from by rw [hwq]; exact n1)
              replace n2 := (show wy.cell? ⟨gb, 2, none⟩ = some (.int .i64 x2) from by rw [hwq]; exact n2)
              replace n3 := (show wy.cell? ⟨gb, 3, none⟩ = some (.int .i64 x3) from by rw [hwq]; exact n3)
              replace n4 := (show wy.cell? ⟨gb, 4, none⟩ = some (.int .i64 x4) from by rw [hwq]; exact n4)
              replace n5 := (show wy.cell? ⟨gb, 5, none⟩ = some (.int .i64 x5) from by rw [hwq]; exact n5)
              replace n6 := (show wy.cell? ⟨gb, 6, none⟩ = some (.int .i64 x6) from by rw [hwq]; exact n6)
              replace n7 := (show wy.cell? ⟨gb, 7, none⟩ = some (.int .i64 x7) from by rw [hwq]; exact n7)
              replace n8 := (show wy.cell? ⟨gb, 8, none⟩ = some (.int .i64 (N8 : Int)) from by rw [hwq]; exact n8)
              replace n9 := (show wy.cell? ⟨gb, 9, none⟩ = some (.int .i64 (N9 : Int)) from by rw [hwq]; exact n9)
              rw [← hwq]
              clear hwq
              generalize cutv nm = ct at HSc HFv
              generalize s.extract (p + N8) (p + N8 + N9) = dd at HSd HFv
              have KC : Hid (∀ w' : World, (w'.cell? ⟨gb, 1, none⟩ = some (.int .i64 x1) ∧ w'.cell? ⟨gb, 2, none⟩ = some (.int .i64 x2) ∧ w'.cell? ⟨gb, 3, none⟩ = some (.int .i64 x3) ∧ w'.cell? ⟨gb, 4, none⟩ = some (.int .i64 x4) ∧ w'.cell? ⟨gb, 5, none⟩ = some (.int .i64 x5) ∧ w'.cell? ⟨gb, 7, none⟩ = some (.int .i64 x7) ∧ w'.cell? ⟨gb, 8, none⟩ = some (.int .i64 (N8 : Int))) → (w'.cell? ⟨gb, 1, none⟩ = some (.int .i64 x1) ∧ w'.cell? ⟨gb, 2, none⟩ = some (.int .i64 x2) ∧ w'.cell? ⟨gb, 3, none⟩ = some (.int .i64 x3) ∧ w'.cell? ⟨gb, 4, none⟩ = some (.int .i64 x4) ∧ w'.cell? ⟨gb, 5, none⟩ = some (.int .i64 x5) ∧ w'.cell? ⟨gb, 7, none⟩ = some (.int .i64 x7) ∧ w'.cell? ⟨gb, 8, none⟩ = some (.int .i64 (N8 : Int)))) := Lib.hid (fun w' h => h)
              go_upto_region 24 with fail
              refine wp_region_u (by kernel_rfl) (fun w' => Below w.heap.size w w' ∧ (w'.cell? ⟨gb, 1, none⟩ = some (.int .i64 x1) ∧ w'.cell? ⟨gb, 2, none⟩ = some (.int .i64 x2) ∧ w'.cell? ⟨gb, 3, none⟩ = some (.int .i64 x3) ∧ w'.cell? ⟨gb, 4, none⟩ = some (.int .i64 x4) ∧ w'.cell? ⟨gb, 5, none⟩ = some (.int .i64 x5) ∧ w'.cell? ⟨gb, 7, none⟩ = some (.int .i64 x7) ∧ w'.cell? ⟨gb, 8, none⟩ = some (.int .i64 (N8 : Int))) ∧ (w'.heap[w.heap.size]? = some (.cells zeroC.cells.toArray 48 (0, 0)) ∨ w'.heap[w.heap.size]? = some (.cells #[.int .i64 x1, .int .i64 x2, .int .i64 x3, .int .i64 x4, .int .i64 x5, .int .i64 x7, .string ct, .string dd] 48 (0, 0)))) (fun x y => y.heap[w.heap.size]? = x.heap[w.heap.size]? ∨ y.heap[w.heap.size]? = some (.cells #[.int .i64 x1, .int .i64 x2, .int .i64 x3, .int .i64 x4, .int .i64 x5, .int .i64 x7, .string ct, .string dd] 48 (0, 0))) (fun dq vq _ => match dq with | 140 => vq = .slice (some ⟨gb, 0, none⟩) 10 cp | 141 => vq = .pointer (some ⟨gb, 1, none⟩) | 142 => vq = .int .i64 x1 | 143 => vq = .slice (some ⟨gb, 0, none⟩) 10 cp | 144 => vq = .pointer (some ⟨gb, 2, none⟩) | 145 => vq = .int .i64 x2 | 146 => vq = .slice (some ⟨gb, 0, none⟩) 10 cp | 147 => vq = .pointer (some ⟨gb, 3, none⟩) | 148 => vq = .int .i64 x3 | 149 => vq = .slice (some ⟨gb, 0, none⟩) 10 cp | 150 => vq = .pointer (some ⟨gb, 4, none⟩) | 151 => vq = .int .i64 x4 | 152 => vq = .slice (some ⟨gb, 0, none⟩) 10 cp | 153 => vq = .pointer (some ⟨gb, 5, none⟩) | 154 => vq = .int .i64 x5 | 155 => vq = .slice (some ⟨gb, 0, none⟩) 10 cp | 156 => vq = .pointer (some ⟨gb, 7, none⟩) | 157 => vq = .int .i64 x7 | 158 => vq = .string nm | 159 => vq = .slice (some ⟨gb, 0, none⟩) 10 cp | 160 => vq = .pointer (some ⟨gb, 8, none⟩) | 161 => vq = .int .i64 (N8 : Int) | 162 => vq = .int .i64 ((N8 : Int) - 1) | 163 => vq = .string ct | 164 => vq = .string s | 165 => vq = .int .i64 (p : Int) | 166 => vq = .slice (some ⟨gb, 0, none⟩) 10 cp | 167 => vq = .pointer (some ⟨gb, 8, none⟩) | 168 => vq = .int .i64 (N8 : Int) | 169 => vq = .int .i64 ((p : Int) + (N8 : Int)) | 170 => vq = .int .i64 ((p : Int) + (N8 : Int) + (N9 : Int)) | 171 => vq = .string dd | 172 => vq = .agg #[.int .i64 x1, .int .i64 x2, .int .i64 x3, .int .i64 x4, .int .i64 x5, .int .i64 x7, .string ct, .string dd] | 173 => vq = .int .i64 ((p : Int) + (N8 : Int) + (N9 : Int)) | 5 => vq = .int .i64 ((p : Int) + (N8 : Int) + (N9 : Int)) | 6 => vq = .int .i64 0 | _ => True) (fun o w' => o.dst = none → w'.heap[w.heap.size]? = some (.cells #[.int .i64 x1, .int .i64 x2, .int .i64 x3, .int .i64 x4, .int .i64 x5, .int .i64 x7, .string ct, .string dd] 48 (0, 0))) (by kernel_rfl) ⟨B.out.drew, ⟨n1, n2, n3, n4, n5, n7, n8⟩, .inl R.out⟩ (fun _ _ _ _ _ _ h => h) (fun _ _ _ _ hs hu hd => Or.elim hs (fun h => h.trans (hu hd)) (fun h => h)) ?hops ?hend
              case hops =>
                simp only [List.forall_mem_cons]
                refine ⟨?o140, ?o141, ?o142, ?o143, ?o144, ?o145, ?o146, ?o147, ?o148, ?o149, ?o150, ?o151, ?o152, ?o153, ?o154, ?o155, ?o156, ?o157, ?o158, ?o159, ?o160, ?o161, ?o162, ?o163, ?o164, ?o165, ?o166, ?o167, ?o168, ?o169, ?o170, ?o171, ?o172, ?o173, ?os34, ?o5, ?o6, fun _ h => by cases h⟩
                case o140 =>
                  intro Q a w2 hC hV hI
                  have e7 : a.eval (.tmp 7) = .slice (some ⟨gb, 0, none⟩) 10 cp := (hI 7 (by simp [Op.operands]) (by kernel_rfl)).trans rfl
                  have f7 : a.tmps.getD 7 undef = .slice (some ⟨gb, 0, none⟩) 10 cp := e7
                  have g7 : a.tmps[7]?.getD undef = .slice (some ⟨gb, 0, none⟩) 10 cp := by rw [← Array.getD_eq_getD_getElem?]; exact e7
                  refine opU_val (C := fun w' => Below w.heap.size w w' ∧ (w'.cell? ⟨gb, 1, none⟩ = some (.int .i64 x1) ∧ w'.cell? ⟨gb, 2, none⟩ = some (.int .i64 x2) ∧ w'.cell? ⟨gb, 3, none⟩ = some (.int .i64 x3) ∧ w'.cell? ⟨gb, 4, none⟩ = some (.int .i64 x4) ∧ w'.cell? ⟨gb, 5, none⟩ = some (.int .i64 x5) ∧ w'.cell? ⟨gb, 7, none⟩ = some (.int .i64 x7) ∧ w'.cell? ⟨gb, 8, none⟩ = some (.int .i64 (N8 : Int))) ∧ (w'.heap[w.heap.size]? = some (.cells zeroC.cells.toArray 48 (0, 0)) ∨ w'.heap[w.heap.size]? = some (.cells #[.int .i64 x1, .int .i64 x2, .int .i64 x3, .int .i64 x4, .int .i64 x5, .int .i64 x7, .string ct, .string dd] 48 (0, 0)))) (St := fun x y => y.heap[w.heap.size]? = x.heap[w.heap.size]? ∨ y.heap[w.heap.size]? = some (.cells #[.int .i64 x1, .int .i64 x2, .int .i64 x3, .int .i64 x4, .int .i64 x5, .int .i64 x7, .string ct, .string dd] 48 (0, 0))) (V := fun dq vq _ => match dq with | 140 => vq = .slice (some ⟨gb, 0, none⟩) 10 cp | 141 => vq = .pointer (some ⟨gb, 1, none⟩) | 142 => vq = .int .i64 x1 | 143 => vq = .slice (some ⟨gb, 0, none⟩) 10 cp | 144 => vq = .pointer (some ⟨gb, 2, none⟩) | 145 => vq = .int .i64 x2 | 146 => vq = .slice (some ⟨gb, 0, none⟩) 10 cp | 147 => vq = .pointer (some ⟨gb, 3, none⟩) | 148 => vq = .int .i64 x3 | 149 => vq = .slice (some ⟨gb, 0, none⟩) 10 cp | 150 => vq = .pointer (some ⟨gb, 4, none⟩) | 151 => vq = .int .i64 x4 | 152 => vq = .slice (some ⟨gb, 0, none⟩) 10 cp | 153 => vq = .pointer (some ⟨gb, 5, none⟩) | 154 => vq = .int .i64 x5 | 155 => vq = .slice (some ⟨gb, 0, none⟩) 10 cp | 156 => vq = .pointer (some ⟨gb, 7, none⟩) | 157 => vq = .int .i64 x7 | 158 => vq = .string nm | 159 => vq = .slice (some ⟨gb, 0, none⟩) 10 cp | 160 => vq = .pointer (some ⟨gb, 8, none⟩) | 161 => vq = .int .i64 (N8 : Int) | 162 => vq = .int .i64 ((N8 : Int) - 1) | 163 => vq = .string ct | 164 => vq = .string s | 165 => vq = .int .i64 (p : Int) | 166 => vq = .slice (some ⟨gb, 0, none⟩) 10 cp | 167 => vq = .pointer (some ⟨gb, 8, none⟩) | 168 => vq = .int .i64 (N8 : Int) | 169 => vq = .int .i64 ((p : Int) + (N8 : Int)) | 170 => vq = .int .i64 ((p : Int) + (N8 : Int) + (N9 : Int)) | 171 => vq = .string dd | 172 => vq = .agg #[.int .i64 x1, .int .i64 x2, .int .i64 x3, .int .i64 x4, .int .i64 x5, .int .i64 x7, .string ct, .string dd] | 173 => vq = .int .i64 ((p : Int) + (N8 : Int) + (N9 : Int)) | 5 => vq = .int .i64 ((p : Int) + (N8 : Int) + (N9 : Int)) | 6 => vq = .int .i64 0 | _ => True) (U := fun o w' => o.dst = none → w'.heap[w.heap.size]? = some (.cells #[.int .i64 x1, .int .i64 x2, .int .i64 x3, .int .i64 x4, .int .i64 x5, .int .i64 x7, .string ct, .string dd] 48 (0, 0))) (w' := w2) (.slice (some ⟨gb, 0, none⟩) 10 cp) ?_ ?_ ?_ ?_ ?_
                  · (clear hV hI hC; go_simp <;> (first | rfl | simp | (rw [IntKind.wrap_i64]; omega)))
                  · exact hC
                  · exact Or.inl rfl
                  · intro d hd; cases hd; rfl
                  · intro h; cases h
                case o141 =>
                  intro Q a w2 hC hV hI
                  have e140 : a.eval (.tmp 140) = .slice (some ⟨gb, 0, none⟩) 10 cp := hV 140 (by simp [Op.operands]) (by kernel_rfl)
                  have f140 : a.tmps.getD 140 undef = .slice (some ⟨gb, 0, none⟩) 10 cp := e140
                  have g140 : a.tmps[140]?.getD undef = .slice (some ⟨gb, 0, none⟩) 10 cp := by rw [← Array.getD_eq_getD_getElem?]; exact e140
                  refine opU_val (C := fun w' => Below w.heap.size w w' ∧ (w'.cell? ⟨gb, 1, none⟩ = some (.int .i64 x1) ∧ w'.cell? ⟨gb, 2, none⟩ = some (.int .i64 x2) ∧ w'.cell? ⟨gb, 3, none⟩ = some (.int .i64 x3) ∧ w'.cell? ⟨gb, 4, none⟩ = some (.int .i64 x4) ∧ w'.cell? ⟨gb, 5, none⟩ = some (.int .i64 x5) ∧ w'.cell? ⟨gb, 7, none⟩ = some (.int .i64 x7) ∧ w'.cell? ⟨gb, 8, none⟩ = some (.int .i64 (N8 : Int))) ∧ (w'.heap[w.heap.size]? = some (.cells zeroC.cells.toArray 48 (0, 0)) ∨ w'.heap[w.heap.size]? = some (.cells #[.int .i64 x1, .int .i64 x2, .int .i64 x3, .int .i64 x4, .int .i64 x5, .int .i64 x7, .string ct, .string dd] 48 (0, 0)))) (St := fun x y => y.heap[w.heap.size]? = x.heap[w.heap.size]? ∨ y.heap[w.heap.size]? = some (.cells #[.int .i64 x1, .int .i64 x2, .int .i64 x3, .int .i64 x4, .int .i64 x5, .int .i64 x7, .string ct, .string dd] 48 (0, 0))) (V := fun dq vq _ => match dq with | 140 => vq = .slice (some ⟨gb, 0, none⟩) 10 cp | 141 => vq = .pointer (some ⟨gb, 1, none⟩) | 142 => vq = .int .i64 x1 | 143 => vq = .slice (some ⟨gb, 0, none⟩) 10 cp | 144 => vq = .pointer (some ⟨gb, 2, none⟩) | 145 => vq = .int .i64 x2 | 146 => vq = .slice (some ⟨gb, 0, none⟩) 10 cp | 147 => vq = .pointer (some ⟨gb, 3, none⟩) | 148 => vq = .int .i64 x3 | 149 => vq = .slice (some ⟨gb, 0, none⟩) 10 cp | 150 => vq = .pointer (some ⟨gb, 4, none⟩) | 151 => vq = .int .i64 x4 | 152 => vq = .slice (some ⟨gb, 0, none⟩) 10 cp | 153 => vq = .pointer (some ⟨gb, 5, none⟩) | 154 => vq = .int .i64 x5 | 155 => vq = .slice (some ⟨gb, 0, none⟩) 10 cp | 156 => vq = .pointer (some ⟨gb, 7, none⟩) | 157 => vq = .int .i64 x7 | 158 => vq = .string nm | 159 => vq = .slice (some ⟨gb, 0, none⟩) 10 cp | 160 => vq = .pointer (some ⟨gb, 8, none⟩) | 161 => vq = .int .i64 (N8 : Int) | 162 => vq = .int .i64 ((N8 : Int) - 1) | 163 => vq = .string ct | 164 => vq = .string s | 165 => vq = .int .i64 (p : Int) | 166 => vq = .slice (some ⟨gb, 0, none⟩) 10 cp | 167 => vq = .pointer (some ⟨gb, 8, none⟩) | 168 => vq = .int .i64 (N8 : Int) | 169 => vq = .int .i64 ((p : Int) + (N8 : Int)) | 170 => vq = .int .i64 ((p : Int) + (N8 : Int) + (N9 : Int)) | 171 => vq = .string dd | 172 => vq = .agg #[.int .i64 x1, .int .i64 x2, .int .i64 x3, .int .i64 x4, .int .i64 x5, .int .i64 x7, .string ct, .string dd] | 173 => vq = .int .i64 ((p : Int) + (N8 : Int) + (N9 : Int)) | 5 => vq = .int .i64 ((p : Int) + (N8 : Int) + (N9 : Int)) | 6 => vq = .int .i64 0 | _ => True) (U := fun o w' => o.dst = none → w'.heap[w.heap.size]? = some (.cells #[.int .i64 x1, .int .i64 x2, .int .i64 x3, .int .i64 x4, .int .i64 x5, .int .i64 x7, .string ct, .string dd] 48 (0, 0))) (w' := w2) (.pointer (some ⟨gb, 1, none⟩)) ?_ ?_ ?_ ?_ ?_
                  · (clear hV hI hC; go_simp <;> (first | rfl | simp | (rw [IntKind.wrap_i64]; omega)))
                  · exact hC
                  · exact Or.inl rfl
                  · intro d hd; cases hd; rfl
                  · intro h; cases h
                case o142 =>
                  intro Q a w2 hC hV hI
                  have e141 : a.eval (.tmp 141) = .pointer (some ⟨gb, 1, none⟩) := hV 141 (by simp [Op.operands]) (by kernel_rfl)
                  have f141 : a.tmps.getD 141 undef = .pointer (some ⟨gb, 1, none⟩) := e141
                  have g141 : a.tmps[141]?.getD undef = .pointer (some ⟨gb, 1, none⟩) := by rw [← Array.getD_eq_getD_getElem?]; exact e141
                  have hK := KC.out w2 hC.2.1
                  refine opU_val (C := fun w' => Below w.heap.size w w' ∧ (w'.cell? ⟨gb, 1, none⟩ = some (.int .i64 x1) ∧ w'.cell? ⟨gb, 2, none⟩ = some (.int .i64 x2) ∧ w'.cell? ⟨gb, 3, none⟩ = some (.int .i64 x3) ∧ w'.cell? ⟨gb, 4, none⟩ = some (.int .i64 x4) ∧ w'.cell? ⟨gb, 5, none⟩ = some (.int .i64 x5) ∧ w'.cell? ⟨gb, 7, none⟩ = some (.int .i64 x7) ∧ w'.cell? ⟨gb, 8, none⟩ = some (.int .i64 (N8 : Int))) ∧ (w'.heap[w.heap.size]? = some (.cells zeroC.cells.toArray 48 (0, 0)) ∨ w'.heap[w.heap.size]? = some (.cells #[.int .i64 x1, .int .i64 x2, .int .i64 x3, .int .i64 x4, .int .i64 x5, .int .i64 x7, .string ct, .string dd] 48 (0, 0)))) (St := fun x y => y.heap[w.heap.size]? = x.heap[w.heap.size]? ∨ y.heap[w.heap.size]? = some (.cells #[.int .i64 x1, .int .i64 x2, .int .i64 x3, .int .i64 x4, .int .i64 x5, .int .i64 x7, .string ct, .string dd] 48 (0, 0))) (V := fun dq vq _ => match dq with | 140 => vq = .slice (some ⟨gb, 0, none⟩) 10 cp | 141 => vq = .pointer (some ⟨gb, 1, none⟩) | 142 => vq = .int .i64 x1 | 143 => vq = .slice (some ⟨gb, 0, none⟩) 10 cp | 144 => vq = .pointer (some ⟨gb, 2, none⟩) | 145 => vq = .int .i64 x2 | 146 => vq = .slice (some ⟨gb, 0, none⟩) 10 cp | 147 => vq = .pointer (some ⟨gb, 3, none⟩) | 148 => vq = .int .i64 x3 | 149 => vq = .slice (some ⟨gb, 0, none⟩) 10 cp | 150 => vq = .pointer (some ⟨gb, 4, none⟩) | 151 => vq = .int .i64 x4 | 152 => vq = .slice (some ⟨gb, 0, none⟩) 10 cp | 153 => vq = .pointer (some ⟨gb, 5, none⟩) | 154 => vq = .int .i64 x5 | 155 => vq = .slice (some ⟨gb, 0, none⟩) 10 cp | 156 => vq = .pointer (some ⟨gb, 7, none⟩) | 157 => vq = .int .i64 x7 | 158 => vq = .string nm | 159 => vq = .slice (some ⟨gb, 0, none⟩) 10 cp | 160 => vq = .pointer (some ⟨gb, 8, none⟩) | 161 => vq = .int .i64 (N8 : Int) | 162 => vq = .int .i64 ((N8 : Int) - 1) | 163 => vq = .string ct | 164 => vq = .string s | 165 => vq = .int .i64 (p : Int) | 166 => vq = .slice (some ⟨gb, 0, none⟩) 10 cp | 167 => vq = .pointer (some ⟨gb, 8, none⟩) | 168 => vq = .int .i64 (N8 : Int) | 169 => vq = .int .i64 ((p : Int) + (N8 : Int)) | 170 => vq = .int .i64 ((p : Int) + (N8 : Int) + (N9 : Int)) | 171 => vq = .string dd | 172 => vq = .agg #[.int .i64 x1, .int .i64 x2, .int .i64 x3, .int .i64 x4, .int .i64 x5, .int .i64 x7, .string ct, .string dd] | 173 => vq = .int .i64 ((p : Int) + (N8 : Int) + (N9 : Int)) | 5 => vq = .int .i64 ((p : Int) + (N8 : Int) + (N9 : Int)) | 6 => vq = .int .i64 0 | _ => True) (U := fun o w' => o.dst = none → w'.heap[w.heap.size]? = some (.cells #[.int .i64 x1, .int .i64 x2, .int .i64 x3, .int .i64 x4, .int .i64 x5, .int .i64 x7, .string ct, .string dd] 48 (0, 0))) (w' := w2) (.int .i64 x1) ?_ ?_ ?_ ?_ ?_
                  · (clear hV hI hC; go_simp <;> (first | rfl | simp | (rw [IntKind.wrap_i64]; omega)))
                  · exact hC
                  · exact Or.inl rfl
                  · intro d hd; cases hd; rfl
                  · intro h; cases h
                case o143 =>
                  intro Q a w2 hC hV hI
                  have e7 : a.eval (.tmp 7) = .slice (some ⟨gb, 0, none⟩) 10 cp := (hI 7 (by simp [Op.operands]) (by kernel_rfl)).trans rfl
                  have f7 : a.tmps.getD 7 undef = .slice (some ⟨gb, 0, none⟩) 10 cp := e7
                  have g7 : a.tmps[7]?.getD undef = .slice (some ⟨gb, 0, none⟩) 10 cp := by rw [← Array.getD_eq_getD_getElem?]; exact e7
                  refine opU_val (C := fun w' => Below w.heap.size w w' ∧ (w'.cell? ⟨gb, 1, none⟩ = some (.int .i64 x1) ∧ w'.cell? ⟨gb, 2, none⟩ = some (.int .i64 x2) ∧ w'.cell? ⟨gb, 3, none⟩ = some (.int .i64 x3) ∧ w'.cell? ⟨gb, 4, none⟩ = some (.int .i64 x4) ∧ w'.cell? ⟨gb, 5, none⟩ = some (.int .i64 x5) ∧ w'.cell? ⟨gb, 7, none⟩ = some (.int .i64 x7) ∧ w'.cell? ⟨gb, 8, none⟩ = some (.int .i64 (N8 : Int))) ∧ (w'.heap[w.heap.size]? = some (.cells zeroC.cells.toArray 48 (0, 0)) ∨ w'.heap[w.heap.size]? = some (.cells #[.int .i64 x1, .int .i64 x2, .int .i64 x3, .int .i64 x4, .int .i64 x5, .int .i64 x7, .string ct, .string dd] 48 (0, 0)))) (St := fun x y => y.heap[w.heap.size]? = x.heap[w.heap.size]? ∨ y.heap[w.heap.size]? = some (.cells #[.int .i64 x1, .int .i64 x2, .int .i64 x3, .int .i64 x4, .int .i64 x5, .int .i64 x7, .string ct, .string dd] 48 (0, 0))) (V := fun dq vq _ => match dq with | 140 => vq = .slice (some ⟨gb, 0, none⟩) 10 cp | 141 => vq = .pointer (some ⟨gb, 1, none⟩) | 142 => vq = .int .i64 x1 | 143 => vq = .slice (some ⟨gb, 0, none⟩) 10 cp | 144 => vq = .pointer (some ⟨gb, 2, none⟩) | 145 => vq = .int .i64 x2 | 146 => vq = .slice (some ⟨gb, 0, none⟩) 10 cp | 147 => vq = .pointer (some ⟨gb, 3, none⟩) | 148 => vq = .int .i64 x3 | 149 => vq = .slice (some ⟨gb, 0, none⟩) 10 cp | 150 => vq = .pointer (some ⟨gb, 4, none⟩) | 151 => vq = .int .i64 x4 | 152 => vq = .slice (some ⟨gb, 0, none⟩) 10 cp | 153 => vq = .pointer (some ⟨gb, 5, none⟩) | 154 => vq = .int .i64 x5 | 155 => vq = .slice (some ⟨gb, 0, none⟩) 10 cp | 156 => vq = .pointer (some ⟨gb, 7, none⟩) | 157 => vq = .int .i64 x7 | 158 => vq = .string nm | 159 => vq = .slice (some ⟨gb, 0, none⟩) 10 cp | 160 => vq = .pointer (some ⟨gb, 8, none⟩) | 161 => vq = .int .i64 (N8 : Int) | 162 => vq = .int .i64 ((N8 : Int) - 1) | 163 => vq = .string ct | 164 => vq = .string s | 165 => vq = .int .i64 (p : Int) | 166 => vq = .slice (some ⟨gb, 0, none⟩) 10 cp | 167 => vq = .pointer (some ⟨gb, 8, none⟩) | 168 => vq = .int .i64 (N8 : Int) | 169 => vq = .int .i64 ((p : Int) + (N8 : Int)) | 170 => vq = .int .i64 ((p : Int) + (N8 : Int) + (N9 : Int)) | 171 => vq = .string dd | 172 => vq = .agg #[.int .i64 x1, .int .i64 x2, .int .i64 x3, .int .i64 x4, .int .i64 x5, .int .i64 x7, .string ct, .string dd] | 173 => vq = .int .i64 ((p : Int) + (N8 : Int) + (N9 : Int)) | 5 => vq = .int .i64 ((p : Int) + (N8 : Int) + (N9 : Int)) | 6 => vq = .int .i64 0 | _ => True) (U := fun o w' => o.dst = none → w'.heap[w.heap.size]? = some (.cells #[.int .i64 x1, .int .i64 x2, .int .i64 x3, .int .i64 x4, .int .i64 x5, .int .i64 x7, .string ct, .string dd] 48 (0, 0))) (w' := w2) (.slice (some ⟨gb, 0, none⟩) 10 cp) ?_ ?_ ?_ ?_ ?_
                  · (clear hV hI hC; go_simp <;> (first | rfl | simp | (rw [IntKind.wrap_i64]; omega)))
                  · exact hC
                  · exact Or.inl rfl
                  · intro d hd; cases hd; rfl
                  · intro h; cases h
                case o144 =>
                  intro Q a w2 hC hV hI
                  have e143 : a.eval (.tmp 143) = .slice (some ⟨gb, 0, none⟩) 10 cp := hV 143 (by simp [Op.operands]) (by kernel_rfl)
                  have f143 : a.tmps.getD 143 undef = .slice (some ⟨gb, 0, none⟩) 10 cp := e143
                  have g143 : a.tmps[143]?.getD undef = .slice (some ⟨gb, 0, none⟩) 10 cp := by rw [← Array.getD_eq_getD_getElem?]; exact e143
                  refine opU_val (C := fun w' => Below w.heap.size w w' ∧ (w'.cell? ⟨gb, 1, none⟩ = some (.int .i64 x1) ∧ w'.cell? ⟨gb, 2, none⟩ = some (.int .i64 x2) ∧ w'.cell? ⟨gb, 3, none⟩ = some (.int .i64 x3) ∧ w'.cell? ⟨gb, 4, none⟩ = some (.int .i64 x4) ∧ w'.cell? ⟨gb, 5, none⟩ = some (.int .i64 x5) ∧ w'.cell? ⟨gb, 7, none⟩ = some (.int .i64 x7) ∧ w'.cell? ⟨gb, 8, none⟩ = some (.int .i64 (N8 : Int))) ∧ (w'.heap[w.heap.size]? = some (.cells zeroC.cells.toArray 48 (0, 0)) ∨ w'.heap[w.heap.size]? = some (.cells #[.int .i64 x1, .int .i64 x2, .int .i64 x3, .int .i64 x4, .int .i64 x5, .int .i64 x7, .string ct, .string dd] 48 (0, 0)))) (St := fun x y => y.heap[w.heap.size]? = x.heap[w.heap.size]? ∨ y.heap[w.heap.size]? = some (.cells #[.int .i64 x1, .int .i64 x2, .int .i64 x3, .int .i64 x4, .int .i64 x5, .int .i64 x7, .string ct, .string dd] 48 (0, 0))) (V := fun dq vq _ => match dq with | 140 => vq = .slice (some ⟨gb, 0, none⟩) 10 cp | 141 => vq = .pointer (some ⟨gb, 1, none⟩) | 142 => vq = .int .i64 x1 | 143 => vq = .slice (some ⟨gb, 0, none⟩) 10 cp | 144 => vq = .pointer (some ⟨gb, 2, none⟩) | 145 => vq = .int .i64 x2 | 146 => vq = .slice (some ⟨gb, 0, none⟩) 10 cp | 147 => vq = .pointer (some ⟨gb, 3, none⟩) | 148 => vq = .int .i64 x3 | 149 => vq = .slice (some ⟨gb, 0, none⟩) 10 cp | 150 => vq = .pointer (some ⟨gb, 4, none⟩) | 151 => vq = .int .i64 x4 | 152 => vq = .slice (some ⟨gb, 0, none⟩) 10 cp | 153 => vq = .pointer (some ⟨gb, 5, none⟩) | 154 => vq = .int .i64 x5 | 155 => vq = .slice (some ⟨gb, 0, none⟩) 10 cp | 156 => vq = .pointer (some ⟨gb, 7, none⟩) | 157 => vq = .int .i64 x7 | 158 => vq = .string nm | 159 => vq = .slice (some ⟨gb, 0, none⟩) 10 cp | 160 => vq = .pointer (some ⟨gb, 8, none⟩) | 161 => vq = .int .i64 (N8 : Int) | 162 => vq = .int .i64 ((N8 : Int) - 1) | 163 => vq = .string ct | 164 => vq = .string s | 165 => vq = .int .i64 (p : Int) | 166 => vq = .slice (some ⟨gb, 0, none⟩) 10 cp | 167 => vq = .pointer (some ⟨gb, 8, none⟩) | 168 => vq = .int .i64 (N8 : Int) | 169 => vq = .int .i64 ((p : Int) + (N8 : Int)) | 170 => vq = .int .i64 ((p : Int) + (N8 : Int) + (N9 : Int)) | 171 => vq = .string dd | 172 => vq = .agg #[.int .i64 x1, .int .i64 x2, .int .i64 x3, .int .i64 x4, .int .i64 x5, .int .i64 x7, .string ct, .string dd] | 173 => vq = .int .i64 ((p : Int) + (N8 : Int) + (N9 : Int)) | 5 => vq = .int .i64 ((p : Int) + (N8 : Int) + (N9 : Int)) | 6 => vq = .int .i64 0 | _ => True) (U := fun o w' => o.dst = none → w'.heap[w.heap.size]? = some (.cells #[.int .i64 x1, .int .i64 x2, .int .i64 x3, .int .i64 x4, .int .i64 x5, .int .i64 x7, .string ct, .string dd] 48 (0, 0))) (w' := w2) (.pointer (some ⟨gb, 2, none⟩)) ?_ ?_ ?_ ?_ ?_
                  · (clear hV hI hC; go_simp <;> (first | rfl | simp | (rw [IntKind.wrap_i64]; omega)))
                  · exact hC
                  · exact Or.inl rfl
                  · intro d hd; cases hd; rfl
                  · intro h; cases h
                case o145 =>
                  intro Q a w2 hC hV hI
                  have e144 : a.eval (.tmp 144) = .pointer (some ⟨gb, 2, none⟩) := hV 144 (by simp [Op.operands]) (by kernel_rfl)
                  have f144 : a.tmps.getD 144 undef = .pointer (some ⟨gb, 2, none⟩) := e144
                  have g144 : a.tmps[144]?.getD undef = .pointer (some ⟨gb, 2, none⟩) := by rw [← Array.getD_eq_getD_getElem?]; exact e144
                  have hK := KC.out w2 hC.2.1
                  refine opU_val (C := fun w' => Below w.heap.size w w' ∧ (w'.cell? ⟨gb, 1, none⟩ = some (.int .i64 x1) ∧ w'.cell? ⟨gb, 2, none⟩ = some (.int .i64 x2) ∧ w'.cell? ⟨gb, 3, none⟩ = some (.int .i64 x3) ∧ w'.cell? ⟨gb, 4, none⟩ = some (.int .i64 x4) ∧ w'.cell? ⟨gb, 5, none⟩ = some (.int .i64 x5) ∧ w'.cell? ⟨gb, 7, none⟩ = some (.int .i64 x7) ∧ w'.cell? ⟨gb, 8, none⟩ = some (.int .i64 (N8 : Int))) ∧ (w'.heap[w.heap.size]? = some (.cells zeroC.cells.toArray 48 (0, 0)) ∨ w'.heap[w.heap.size]? = some (.cells #[.int .i64 x1, .int .i64 x2, .int .i64 x3, .int .i64 x4, .int .i64 x5, .int .i64 x7, .string ct, .string dd] 48 (0, 0)))) (St := fun x y => y.heap[w.heap.size]? = x.heap[w.heap.size]? ∨ y.heap[w.heap.size]? = some (.cells #[.int .i64 x1, .int .i64 x2, .int .i64 x3, .int .i64 x4, .int .i64 x5, .int .i64 x7, .string ct, .string dd] 48 (0, 0))) (V := fun dq vq _ => match dq with | 140 => vq = .slice (some ⟨gb, 0, none⟩) 10 cp | 141 => vq = .pointer (some ⟨gb, 1, none⟩) | 142 => vq = .int .i64 x1 | 143 => vq = .slice (some ⟨gb, 0, none⟩) 10 cp | 144 => vq = .pointer (some ⟨gb, 2, none⟩) | 145 => vq = .int .i64 x2 | 146 => vq = .slice (some ⟨gb, 0, none⟩) 10 cp | 147 => vq = .pointer (some ⟨gb, 3, none⟩) | 148 => vq = .int .i64 x3 | 149 => vq = .slice (some ⟨gb, 0, none⟩) 10 cp | 150 => vq = .pointer (some ⟨gb, 4, none⟩) | 151 => vq = .int .i64 x4 | 152 => vq = .slice (some ⟨gb, 0, none⟩) 10 cp | 153 => vq = .pointer (some ⟨gb, 5, none⟩) | 154 => vq = .int .i64 x5 | 155 => vq = .slice (some ⟨gb, 0, none⟩) 10 cp | 156 => vq = .pointer (some ⟨gb, 7, none⟩) | 157 => vq = .int .i64 x7 | 158 => vq = .string nm | 159 => vq = .slice (some ⟨gb, 0, none⟩) 10 cp | 160 => vq = .pointer (some ⟨gb, 8, none⟩) | 161 => vq = .int .i64 (N8 : Int) | 162 => vq = .int .i64 ((N8 : Int) - 1) | 163 => vq = .string ct | 164 => vq = .string s | 165 => vq = .int .i64 (p : Int) | 166 => vq = .slice (some ⟨gb, 0, none⟩) 10 cp | 167 => vq = .pointer (some ⟨gb, 8, none⟩) | 168 => vq = .int .i64 (N8 : Int) | 169 => vq = .int .i64 ((p : Int) + (N8 : Int)) | 170 => vq = .int .i64 ((p : Int) + (N8 : Int) + (N9 : Int)) | 171 => vq = .string dd | 172 => vq = .agg #[.int .i64 x1, .int .i64 x2, .int .i64 x3, .int .i64 x4, .int .i64 x5, .int .i64 x7, .string ct, .string dd] | 173 => vq = .int .i64 ((p : Int) + (N8 : Int) + (N9 : Int)) | 5 => vq = .int .i64 ((p : Int) + (N8 : Int) + (N9 : Int)) | 6 => vq = .int .i64 0 | _ => True) (U := fun o w' => o.dst = none → w'.heap[w.heap.size]? = some (.cells #[.int .i64 x1, .int .i64 x2, .int .i64 x3, .int .i64 x4, .int .i64 x5, .int .i64 x7, .string ct, .string dd] 48 (0, 0))) (w' := w2) (.int .i64 x2) ?_ ?_ ?_ ?_ ?_
                  · (clear hV hI hC; go_simp <;> (first | rfl | simp | (rw [IntKind.wrap_i64]; omega)))
                  · exact hC
                  · exact Or.inl rfl
                  · intro d hd; cases hd; rfl
                  · intro h; cases h
                case o146 =>
                  intro Q a w2 hC hV hI
                  have e7 : a.eval (.tmp 7) = .slice (some ⟨gb, 0, none⟩) 10 cp := (hI 7 (by simp [Op.operands]) (by kernel_rfl)).trans rfl
                  have f7 : a.tmps.getD 7 undef = .slice (some ⟨gb, 0, none⟩) 10 cp := e7
                  have g7 : a.tmps[7]?.getD undef = .slice (some ⟨gb, 0, none⟩) 10 cp := by rw [← Array.getD_eq_getD_getElem?]; exact e7
                  refine opU_val (C := fun w' => Below w.heap.size w w' ∧ (w'.cell? ⟨gb, 1, none⟩ = some (.int .i64 x1) ∧ w'.cell? ⟨gb, 2, none⟩ = some (.int .i64 x2) ∧ w'.cell? ⟨gb, 3, none⟩ = some (.int .i64 x3) ∧ w'.cell? ⟨gb, 4, none⟩ = some (.int .i64 x4) ∧ w'.cell? ⟨gb, 5, none⟩ = some (.int .i64 x5) ∧ w'.cell? ⟨gb, 7, none⟩ = some (.int .i64 x7) ∧ w'.cell? ⟨gb, 8, none⟩ = some (.int .i64 (N8 : Int))) ∧ (w'.heap[w.heap.size]? = some (.cells zeroC.cells.toArray 48 (0, 0)) ∨ w'.heap[w.heap.size]? = some (.cells #[.int .i64 x1, .int .i64 x2, .int .i64 x3, .int .i64 x4, .int .i64 x5, .int .i64 x7, .string ct, .string dd] 48 (0, 0)))) (St := fun x y => y.heap[w.heap.size]? = x.heap[w.heap.size]? ∨ y.heap[w.heap.size]? = some (.cells #[.int .i64 x1, .int .i64 x2, .int .i64 x3, .int .i64 x4, .int .i64 x5, .int .i64 x7, .string ct, .string dd] 48 (0, 0))) (V := fun dq vq _ => match dq with | 140 => vq = .slice (some ⟨gb, 0, none⟩) 10 cp | 141 => vq = .pointer (some ⟨gb, 1, none⟩) | 142 => vq = .int .i64 x1 | 143 => vq = .slice (some ⟨gb, 0, none⟩) 10 cp | 144 => vq = .pointer (some ⟨gb, 2, none⟩) | 145 => vq = .int .i64 x2 | 146 => vq = .slice (some ⟨gb, 0, none⟩) 10 cp | 147 => vq = .pointer (some ⟨gb, 3, none⟩) | 148 => vq = .int .i64 x3 | 149 => vq = .slice (some ⟨gb, 0, none⟩) 10 cp | 150 => vq = .pointer (some ⟨gb, 4, none⟩) | 151 => vq = .int .i64 x4 | 152 => vq = .slice (some ⟨gb, 0, none⟩) 10 cp | 153 => vq = .pointer (some ⟨gb, 5, none⟩) | 154 => vq = .int .i64 x5 | 155 => vq = .slice (some ⟨gb, 0, none⟩) 10 cp | 156 => vq = .pointer (some ⟨gb, 7, none⟩) | 157 => vq = .int .i64 x7 | 158 => vq = .string nm | 159 => vq = .slice (some ⟨gb, 0, none⟩) 10 cp | 160 => vq = .pointer (some ⟨gb, 8, none⟩) | 161 => vq = .int .i64 (N8 : Int) | 162 => vq = .int .i64 ((N8 : Int) - 1) | 163 => vq = .string ct | 164 => vq = .string s | 165 => vq = .int .i64 (p : Int) | 166 => vq = .slice (some ⟨gb, 0, none⟩) 10 cp | 167 => vq = .pointer (some ⟨gb, 8, none⟩) | 168 => vq = .int .i64 (N8 : Int) | 169 => vq = .int .i64 ((p : Int) + (N8 : Int)) | 170 => vq = .int .i64 ((p : Int) + (N8 : Int) + (N9 : Int)) | 171 => vq = .string dd | 172 => vq = .agg #[.int .i64 x1, .int .i64 x2, .int .i64 x3, .int .i64 x4, .int .i64 x5, .int .i64 x7, .string ct, .string dd] | 173 => vq = .int .i64 ((p : Int) + (N8 : Int) + (N9 : Int)) | 5 => vq = .int .i64 ((p : Int) + (N8 : Int) + (N9 : Int)) | 6 => vq = .int .i64 0 | _ => True) (U := fun o w' => o.dst = none → w'.heap[w.heap.size]? = some (.cells #[.int .i64 x1, .int .i64 x2, .int .i64 x3, .int .i64 x4, .int .i64 x5, .int .i64 x7, .string ct, .string dd] 48 (0, 0))) (w' := w2) (.slice (some ⟨gb, 0, none⟩) 10 cp) ?_ ?_ ?_ ?_ ?_
                  · (clear hV hI hC; go_simp <;> (first | rfl | simp | (rw [IntKind.wrap_i64]; omega)))
                  · exact hC
                  · exact Or.inl rfl
                  · intro d hd; cases hd; rfl
                  · intro h; cases h
                case o147 =>
                  intro Q a w2 hC hV hI
                  have e146 : a.eval (.tmp 146) = .slice (some ⟨gb, 0, none⟩) 10 cp := hV 146 (by simp [Op.operands]) (by kernel_rfl)
                  have f146 : a.tmps.getD 146 undef = .slice (some ⟨gb, 0, none⟩) 10 cp := e146
                  have g146 : a.tmps[146]?.getD undef = .slice (some ⟨gb, 0, none⟩) 10 cp := by rw [← Array.getD_eq_getD_getElem?]; exact e146
                  refine opU_val (C := fun w' => Below w.heap.size w w' ∧ (w'.cell? ⟨gb, 1, none⟩ = some (.int .i64 x1) ∧ w'.cell? ⟨gb, 2, none⟩ = some (.int .i64 x2) ∧ w'.cell? ⟨gb, 3, none⟩ = some (.int .i64 x3) ∧ w'.cell? ⟨gb, 4, none⟩ = some (.int .i64 x4) ∧ w'.cell? ⟨gb, 5, none⟩ = some (.int .i64 x5) ∧ w'.cell? ⟨gb, 7, none⟩ = some (.int .i64 x7) ∧ w'.cell? ⟨gb, 8, none⟩ = some (.int .i64 (N8 : Int))) ∧ (w'.heap[w.heap.size]? = some (.cells zeroC.cells.toArray 48 (0, 0)) ∨ w'.heap[w.heap.size]? = some (.cells #[.int .i64 x1, .int .i64 x2, .int .i64 x3, .int .i64 x4, .int .i64 x5, .int .i64 x7, .string ct, .string dd] 48 (0, 0)))) (St := fun x y => y.heap[w.heap.size]? = x.heap[w.heap.size]? ∨ y.heap[w.heap.size]? = some (.cells #[.int .i64 x1, .int .i64 x2, .int .i64 x3, .int .i64 x4, .int .i64 x5, .int .i64 x7, .string ct, .string dd] 48 (0, 0))) (V := fun dq vq _ => match dq with | 140 => vq = .slice (some ⟨gb, 0, none⟩) 10 cp | 141 => vq = .pointer (some ⟨gb, 1, none⟩) | 142 => vq = .int .i64 x1 | 143 => vq = .slice (some ⟨gb, 0, none⟩) 10 cp | 144 => vq = .pointer (some ⟨gb, 2, none⟩) | 145 => vq = .int .i64 x2 | 146 => vq = .slice (some ⟨gb, 0, none⟩) 10 cp | 147 => vq = .pointer (some ⟨gb, 3, none⟩) | 148 => vq = .int .i64 x3 | 149 => vq = .slice (some ⟨gb, 0, none⟩) 10 cp | 150 => vq = .pointer (some ⟨gb, 4, none⟩) | 151 => vq = .int .i64 x4 | 152 => vq = .slice (some ⟨gb, 0, none⟩) 10 cp | 153 => vq = .pointer (some ⟨gb, 5, none⟩) | 154 => vq = .int .i64 x5 | 155 => vq = .slice (some ⟨gb, 0, none⟩) 10 cp | 156 => vq = .pointer (some ⟨gb, 7, none⟩) | 157 => vq = .int .i64 x7 | 158 => vq = .string nm | 159 => vq = .slice (some ⟨gb, 0, none⟩) 10 cp | 160 => vq = .pointer (some ⟨gb, 8, none⟩) | 161 => vq = .int .i64 (N8 : Int) | 162 => vq = .int .i64 ((N8 : Int) - 1) | 163 => vq = .string ct | 164 => vq = .string s | 165 => vq = .int .i64 (p : Int) | 166 => vq = .slice (some ⟨gb, 0, none⟩) 10 cp | 167 => vq = .pointer (some ⟨gb, 8, none⟩) | 168 => vq = .int .i64 (N8 : Int) | 169 => vq = .int .i64 ((p : Int) + (N8 : Int)) | 170 => vq = .int .i64 ((p : Int) + (N8 : Int) + (N9 : Int)) | 171 => vq = .string dd | 172 => vq = .agg #[.int .i64 x1, .int .i64 x2, .int .i64 x3, .int .i64 x4, .int .i64 x5, .int .i64 x7, .string ct, .string dd] | 173 => vq = .int .i64 ((p : Int) + (N8 : Int) + (N9 : Int)) | 5 => vq = .int .i64 ((p : Int) + (N8 : Int) + (N9 : Int)) | 6 => vq = .int .i64 0 | _ => True) (U := fun o w' => o.dst = none → w'.heap[w.heap.size]? = some (.cells #[.int .i64 x1, .int .i64 x2, .int .i64 x3, .int .i64 x4, .int .i64 x5, .int .i64 x7, .string ct, .string dd] 48 (0, 0))) (w' := w2) (.pointer (some ⟨gb, 3, none⟩)) ?_ ?_ ?_ ?_ ?_
                  · (clear hV hI hC; go_simp <;> (first | rfl | simp | (rw [IntKind.wrap_i64]; omega)))
                  · exact hC
                  · exact Or.inl rfl
                  · intro d hd; cases hd; rfl
                  · intro h; cases h
                case o148 =>
                  intro Q a w2 hC hV hI
                  have e147 : a.eval (.tmp 147) = .pointer (some ⟨gb, 3, none⟩) := hV 147 (by simp [Op.operands]) (by kernel_rfl)
                  have f147 : a.tmps.getD 147 undef = .pointer (some ⟨gb, 3, none⟩) := e147
                  have g147 : a.tmps[147]?.getD undef = .pointer (some ⟨gb, 3, none⟩) := by rw [← Array.getD_eq_getD_getElem?]; exact e147
                  have hK := KC.out w2 hC.2.1
                  refine opU_val (C := fun w' => Below w.heap.size w w' ∧ (w'.cell? ⟨gb, 1, none⟩ = some (.int .i64 x1) ∧ w'.cell? ⟨gb, 2, none⟩ = some (.int .i64 x2) ∧ w'.cell? ⟨gb, 3, none⟩ = some (.int .i64 x3) ∧ w'.cell? ⟨gb, 4, none⟩ = some (.int .i64 x4) ∧ w'.cell? ⟨gb, 5, none⟩ = some (.int .i64 x5) ∧ w'.cell? ⟨gb, 7, none⟩ = some (.int .i64 x7) ∧ w'.cell? ⟨gb, 8, none⟩ = some (.int .i64 (N8 : Int))) ∧ (w'.heap[w.heap.size]? = some (.cells zeroC.cells.toArray 48 (0, 0)) ∨ w'.heap[w.heap.size]? = some (.cells #[.int .i64 x1, .int .i64 x2, .int .i64 x3, .int .i64 x4, .int .i64 x5, .int .i64 x7, .string ct, .string dd] 48 (0, 0)))) (St := fun x y => y.heap[w.heap.size]? = x.heap[w.heap.size]? ∨ y.heap[w.heap.size]? = some (.cells #[.int .i64 x1, .int .i64 x2, .int .i64 x3, .int .i64 x4, .int .i64 x5, .int .i64 x7, .string ct, .string dd] 48 (0, 0))) (V := fun dq vq _ => match dq with | 140 => vq = .slice (some ⟨gb, 0, none⟩) 10 cp | 141 => vq = .pointer (some ⟨gb, 1, none⟩) | 142 => vq = .int .i64 x1 | 143 => vq = .slice (some ⟨gb, 0, none⟩) 10 cp | 144 => vq = .pointer (some ⟨gb, 2, none⟩) | 145 => vq = .int .i64 x2 | 146 => vq = .slice (some ⟨gb, 0, none⟩) 10 cp | 147 => vq = .pointer (some ⟨gb, 3, none⟩) | 148 => vq = .int .i64 x3 | 149 => vq = .slice (some ⟨gb, 0, none⟩) 10 cp | 150 => vq = .pointer (some ⟨gb, 4, none⟩) | 151 => vq = .int .i64 x4 | 152 => vq = .slice (some ⟨gb, 0, none⟩) 10 cp | 153 => vq = .pointer (some ⟨gb, 5, none⟩) | 154 => vq = .int .i64 x5 | 155 => vq = .slice (some ⟨gb, 0, none⟩) 10 cp | 156 => vq = .pointer (some ⟨gb, 7, none⟩) | 157 => vq = .int .i64 x7 | 158 => vq = .string nm | 159 => vq = .slice (some ⟨gb, 0, none⟩) 10 cp | 160 => vq = .pointer (some ⟨gb, 8, none⟩) | 161 => vq = .int .i64 (N8 : Int) | 162 => vq = .int .i64 ((N8 : Int) - 1) | 163 => vq = .string ct | 164 => vq = .string s | 165 => vq = .int .i64 (p : Int) | 166 => vq = .slice (some ⟨gb, 0, none⟩) 10 cp | 167 => vq = .pointer (some ⟨gb, 8, none⟩) | 168 => vq = .int .i64 (N8 : Int) | 169 => vq = .int .i64 ((p : Int) + (N8 : Int)) | 170 => vq = .int .i64 ((p : Int) + (N8 : Int) + (N9 : Int)) | 171 => vq = .string dd | 172 => vq = .agg #[.int .i64 x1, .int .i64 x2, .int .i64 x3, .int .i64 x4, .int .i64 x5, .int .i64 x7, .string ct, .string dd] | 173 => vq = .int .i64 ((p : Int) + (N8 : Int) + (N9 : Int)) | 5 => vq = .int .i64 ((p : Int) + (N8 : Int) + (N9 : Int)) | 6 => vq = .int .i64 0 | _ => True) (U := fun o w' => o.dst = none → w'.heap[w.heap.size]? = some (.cells #[.int .i64 x1, .int .i64 x2, .int .i64 x3, .int .i64 x4, .int .i64 x5, .int .i64 x7, .string ct, .string dd] 48 (0, 0))) (w' := w2) (.int .i64 x3) ?_ ?_ ?_ ?_ ?_
                  · (clear hV hI hC; go_simp <;> (first | rfl | simp | (rw [IntKind.wrap_i64]; omega)))
                  · exact hC
                  · exact Or.inl rfl
                  · intro d hd; cases hd; rfl
                  · intro h; cases h
                case o149 =>
                  intro Q a w2 hC hV hI
                  have e7 : a.eval (.tmp 7) = .slice (some ⟨gb, 0, none⟩) 10 cp := (hI 7 (by simp [Op.operands]) (by kernel_rfl)).trans rfl
                  have f7 : a.tmps.getD 7 undef = .slice (some ⟨gb, 0, none⟩) 10 cp := e7
                  have g7 : a.tmps[7]?.getD undef = .slice (some ⟨gb, 0, none⟩) 10 cp := by rw [← Array.getD_eq_getD_getElem?]; exact e7
                  refine opU_val (C := fun w' => Below w.heap.size w w' ∧ (w'.cell? ⟨gb, 1, none⟩ = some (.int .i64 x1) ∧ w'.cell? ⟨gb, 2, none⟩ = some (.int .i64 x2) ∧ w'.cell? ⟨gb, 3, none⟩ = some (.int .i64 x3) ∧ w'.cell? ⟨gb, 4, none⟩ = some (.int .i64 x4) ∧ w'.cell? ⟨gb, 5, none⟩ = some (.int .i64 x5) ∧ w'.cell? ⟨gb, 7, none⟩ = some (.int .i64 x7) ∧ w'.cell? ⟨gb, 8, none⟩ = some (.int .i64 (N8 : Int))) ∧ (w'.heap[w.heap.size]? = some (.cells zeroC.cells.toArray 48 (0, 0)) ∨ w'.heap[w.heap.size]? = some (.cells #[.int .i64 x1, .int .i64 x2, .int .i64 x3, .int .i64 x4, .int .i64 x5, .int .i64 x7, .string ct, .string dd] 48 (0, 0)))) (St := fun x y => y.heap[w.heap.size]? = x.heap[w.heap.size]? ∨ y.heap[w.heap.size]? = some (.cells #[.int .i64 x1, .int .i64 x2, .int .i64 x3, .int .i64 x4, .int .i64 x5, .int .i64 x7, .string ct, .string dd] 48 (0, 0))) (V := fun dq vq _ => match dq with | 140 => vq = .slice (some ⟨gb, 0, none⟩) 10 cp | 141 => vq = .pointer (some ⟨gb, 1, none⟩) | 142 => vq = .int .i64 x1 | 143 => vq = .slice (some ⟨gb, 0, none⟩) 10 cp | 144 => vq = .pointer (some ⟨gb, 2, none⟩) | 145 => vq = .int .i64 x2 | 146 => vq = .slice (some ⟨gb, 0, none⟩) 10 cp | 147 => vq = .pointer (some ⟨gb, 3, none⟩) | 148 => vq = .int .i64 x3 | 149 => vq = .slice (some ⟨gb, 0, none⟩) 10 cp | 150 => vq = .pointer (some ⟨gb, 4, none⟩) | 151 => vq = .int .i64 x4 | 152 => vq = .slice (some ⟨gb, 0, none⟩) 10 cp | 153 => vq = .pointer (some ⟨gb, 5, none⟩) | 154 => vq = .int .i64 x5 | 155 => vq = .slice (some ⟨gb, 0, none⟩) 10 cp | 156 => vq = .pointer (some ⟨gb, 7, none⟩) | 157 => vq = .int .i64 x7 | 158 => vq = .string nm | 159 => vq = .slice (some ⟨gb, 0, none⟩) 10 cp | 160 => vq = .pointer (some ⟨gb, 8, none⟩) | 161 => vq = .int .i64 (N8 : Int) | 162 => vq = .int .i64 ((N8 : Int) - 1) | 163 => vq = .string ct | 164 => vq = .string s | 165 => vq = .int .i64 (p : Int) | 166 => vq = .slice (some ⟨gb, 0, none⟩) 10 cp | 167 => vq = .pointer (some ⟨gb, 8, none⟩) | 168 => vq = .int .i64 (N8 : Int) | 169 => vq = .int .i64 ((p : Int) + (N8 : Int)) | 170 => vq = .int .i64 ((p : Int) + (N8 : Int) + (N9 : Int)) | 171 => vq = .string dd | 172 => vq = .agg #[.int .i64 x1, .int .i64 x2, .int .i64 x3, .int .i64 x4, .int .i64 x5, .int .i64 x7, .string ct, .string dd] | 173 => vq = .int .i64 ((p : Int) + (N8 : Int) + (N9 : Int)) | 5 => vq = .int .i64 ((p : Int) + (N8 : Int) + (N9 : Int)) | 6 => vq = .int .i64 0 | _ => True) (U := fun o w' => o.dst = none → w'.heap[w.heap.size]? = some (.cells #[.int .i64 x1, .int .i64 x2, .int .i64 x3, .int .i64 x4, .int .i64 x5, .int .i64 x7, .string ct, .string dd] 48 (0, 0))) (w' := w2) (.slice (some ⟨gb, 0, none⟩) 10 cp) ?_ ?_ ?_ ?_ ?_
                  · (clear hV hI hC; go_simp <;> (first | rfl | simp | (rw [IntKind.wrap_i64]; omega)))
                  · exact hC
                  · exact Or.inl rfl
                  · intro d hd; cases hd; rfl
                  · intro h; cases h
                case o150 =>
                  intro Q a w2 hC hV hI
                  have e149 : a.eval (.tmp 149) = .slice (some ⟨gb, 0, none⟩) 10 cp := hV 149 (by simp [Op.operands]) (by kernel_rfl)
                  have f149 : a.tmps.getD 149 undef = .slice (some ⟨gb, 0, none⟩) 10 cp := e149
                  have g149 : a.tmps[149]?.getD undef = .slice (some ⟨gb, 0, none⟩) 10 cp := by rw [← Array.getD_eq_getD_getElem?]; exact e149
                  refine opU_val (C := fun w' => Below w.heap.size w w' ∧ (w'.cell? ⟨gb, 1, none⟩ = some (.int .i64 x1) ∧ w'.cell? ⟨gb, 2, none⟩ = some (.int .i64 x2) ∧ w'.cell? ⟨gb, 3, none⟩ = some (.int .i64 x3) ∧ w'.cell? ⟨gb, 4, none⟩ = some (.int .i64 x4) ∧ w'.cell? ⟨gb, 5, none⟩ = some (.int .i64 x5) ∧ w'.cell? ⟨gb, 7, none⟩ = some (.int .i64 x7) ∧ w'.cell? ⟨gb, 8, none⟩ = some (.int .i64 (N8 : Int))) ∧ (w'.heap[w.heap.size]? = some (.cells zeroC.cells.toArray 48 (0, 0)) ∨ w'.heap[w.heap.size]? = some (.cells #[.int .i64 x1, .int .i64 x2, .int .i64 x3, .int .i64 x4, .int .i64 x5, .int .i64 x7, .string ct, .string dd] 48 (0, 0)))) (St := fun x y => y.heap[w.heap.size]? = x.heap[w.heap.size]? ∨ y.heap[w.heap.size]? = some (.cells #[.int .i64 x1, .int .i64 x2, .int .i64 x3, .int .i64 x4, .int .i64 x5, .int .i64 x7, .string ct, .string dd] 48 (0, 0))) (V := fun dq vq _ => match dq with | 140 => vq = .slice (some ⟨gb, 0, none⟩) 10 cp | 141 => vq = .pointer (some ⟨gb, 1, none⟩) | 142 => vq = .int .i64 x1 | 143 => vq = .slice (some ⟨gb, 0, none⟩) 10 cp | 144 => vq = .pointer (some ⟨gb, 2, none⟩) | 145 => vq = .int .i64 x2 | 146 => vq = .slice (some ⟨gb, 0, none⟩) 10 cp | 147 => vq = .pointer (some ⟨gb, 3, none⟩) | 148 => vq = .int .i64 x3 | 149 => vq = .slice (some ⟨gb, 0, none⟩) 10 cp | 150 => vq = .pointer (some ⟨gb, 4, none⟩) | 151 => vq = .int .i64 x4 | 152 => vq = .slice (some ⟨gb, 0, none⟩) 10 cp | 153 => vq = .pointer (some ⟨gb, 5, none⟩) | 154 => vq = .int .i64 x5 | 155 => vq = .slice (some ⟨gb, 0, none⟩) 10 cp | 156 => vq = .pointer (some ⟨gb, 7, none⟩) | 157 => vq = .int .i64 x7 | 158 => vq = .string nm | 159 => vq = .slice (some ⟨gb, 0, none⟩) 10 cp | 160 => vq = .pointer (some ⟨gb, 8, none⟩) | 161 => vq = .int .i64 (N8 : Int) | 162 => vq = .int .i64 ((N8 : Int) - 1) | 163 => vq = .string ct | 164 => vq = .string s | 165 => vq = .int .i64 (p : Int) | 166 => vq = .slice (some ⟨gb, 0, none⟩) 10 cp | 167 => vq = .pointer (some ⟨gb, 8, none⟩) | 168 => vq = .int .i64 (N8 : Int) | 169 => vq = .int .i64 ((p : Int) + (N8 : Int)) | 170 => vq = .int .i64 ((p : Int) + (N8 : Int) + (N9 : Int)) | 171 => vq = .string dd | 172 => vq = .agg #[.int .i64 x1, .int .i64 x2, .int .i64 x3, .int .i64 x4, .int .i64 x5, .int .i64 x7, .string ct, .string dd] | 173 => vq = .int .i64 ((p : Int) + (N8 : Int) + (N9 : Int)) | 5 => vq = .int .i64 ((p : Int) + (N8 : Int) + (N9 : Int)) | 6 => vq = .int .i64 0 | _ => True) (U := fun o w' => o.dst = none → w'.heap[w.heap.size]? = some (.cells #[.int .i64 x1, .int .i64 x2, .int .i64 x3, .int .i64 x4, .int .i64 x5, .int .i64 x7, .string ct, .string dd] 48 (0, 0))) (w' := w2) (.pointer (some ⟨gb, 4, none⟩)) ?_ ?_ ?_ ?_ ?_
                  · (clear hV hI hC; go_simp <;> (first | rfl | simp | (rw [IntKind.wrap_i64]; omega)))
                  · exact hC
                  · exact Or.inl rfl
                  · intro d hd; cases hd; rfl
                  · intro h; cases h
                case o151 =>
                  intro Q a w2 hC hV hI
                  have e150 : a.eval (.tmp 150) = .pointer (some ⟨gb, 4, none⟩) := hV 150 (by simp [Op.operands]) (by kernel_rfl)
                  have f150 : a.tmps.getD 150 undef = .pointer (some ⟨gb, 4, none⟩) := e150
                  have g150 : a.tmps[150]?.getD undef = .pointer (some ⟨gb, 4, none⟩) := by rw [← Array.getD_eq_getD_getElem?]; exact e150
                  have hK := KC.out w2 hC.2.1
                  refine opU_val (C := fun w' => Below w.heap.size w w' ∧ (w'.cell? ⟨gb, 1, none⟩ = some (.int .i64 x1) ∧ w'.cell? ⟨gb, 2, none⟩ = some (.int .i64 x2) ∧ w'.cell? ⟨gb, 3, none⟩ = some (.int .i64 x3) ∧ w'.cell? ⟨gb, 4, none⟩ = some (.int .i64 x4) ∧ w'.cell? ⟨gb, 5, none⟩ = some (.int .i64 x5) ∧ w'.cell? ⟨gb, 7, none⟩ = some (.int .i64 x7) ∧ w'.cell? ⟨gb, 8, none⟩ = some (.int .i64 (N8 : Int))) ∧ (w'.heap[w.heap.size]? = some (.cells zeroC.cells.toArray 48 (0, 0)) ∨ w'.heap[w.heap.size]? = some (.cells #[.int .i64 x1, .int .i64 x2, .int .i64 x3, .int .i64 x4, .int .i64 x5, .int .i64 x7, .string ct, .string dd] 48 (0, 0)))) (St := fun x y => y.heap[w.heap.size]? = x.heap[w.heap.size]? ∨ y.heap[w.heap.size]? = some (.cells #[.int .i64 x1, .int .i64 x2, .int .i64 x3, .int .i64 x4, .int .i64 x5, .int .i64 x7, .string ct, .string dd] 48 (0, 0))) (V := fun dq vq _ => match dq with | 140 => vq = .slice (some ⟨gb, 0, none⟩) 10 cp | 141 => vq = .pointer (some ⟨gb, 1, none⟩) | 142 => vq = .int .i64 x1 | 143 => vq = .slice (some ⟨gb, 0, none⟩) 10 cp | 144 => vq = .pointer (some ⟨gb, 2, none⟩) | 145 => vq = .int .i64 x2 | 146 => vq = .slice (some ⟨gb, 0, none⟩) 10 cp | 147 => vq = .pointer (some ⟨gb, 3, none⟩) | 148 => vq = .int .i64 x3 | 149 => vq = .slice (some ⟨gb, 0, none⟩) 10 cp | 150 => vq = .pointer (some ⟨gb, 4, none⟩) | 151 => vq = .int .i64 x4 | 152 => vq = .slice (some ⟨gb, 0, none⟩) 10 cp | 153 => vq = .pointer (some ⟨gb, 5, none⟩) | 154 => vq = .int .i64 x5 | 155 => vq = .slice (some ⟨gb, 0, none⟩) 10 cp | 156 => vq = .pointer (some ⟨gb, 7, none⟩) | 157 => vq = .int .i64 x7 | 158 => vq = .string nm | 159 => vq = .slice (some ⟨gb, 0, none⟩) 10 cp | 160 => vq = .pointer (some ⟨gb, 8, none⟩) | 161 => vq = .int .i64 (N8 : Int) | 162 => vq = .int .i64 ((N8 : Int) - 1) | 163 => vq = .string ct | 164 => vq = .string s | 165 => vq = .int .i64 (p : Int) | 166 => vq = .slice (some ⟨gb, 0, none⟩) 10 cp | 167 => vq = .pointer (some ⟨gb, 8, none⟩) | 168 => vq = .int .i64 (N8 : Int) | 169 => vq = .int .i64 ((p : Int) + (N8 : Int)) | 170 => vq = .int .i64 ((p : Int) + (N8 : Int) + (N9 : Int)) | 171 => vq = .string dd | 172 => vq = .agg #[.int .i64 x1, .int .i64 x2, .int .i64 x3, .int .i64 x4, .int .i64 x5, .int .i64 x7, .string ct, .string dd] | 173 => vq = .int .i64 ((p : Int) + (N8 : Int) + (N9 : Int)) | 5 => vq = .int .i64 ((p : Int) + (N8 : Int) + (N9 : Int)) | 6 => vq = .int .i64 0 | _ => True) (U := fun o w' => o.dst = none → w'.heap[w.heap.size]? = some (.cells #[.int .i64 x1, .int .i64 x2, .int .i64 x3, .int .i64 x4, .int .i64 x5, .int .i64 x7, .string ct, .string dd] 48 (0, 0))) (w' := w2) (.int .i64 x4) ?_ ?_ ?_ ?_ ?_
                  · (clear hV hI hC; go_simp <;> (first | rfl | simp | (rw [IntKind.wrap_i64]; omega)))
                  · exact hC
                  · exact Or.inl rfl
                  · intro d hd; cases hd; rfl
                  · intro h; cases h
                case o152 =>
                  intro Q a w2 hC hV hI
                  have e7 : a.eval (.tmp 7) = .slice (some ⟨gb, 0, none⟩) 10 cp := (hI 7 (by simp [Op.operands]) (by kernel_rfl)).trans rfl
                  have f7 : a.tmps.getD 7 undef = .slice (some ⟨gb, 0, none⟩) 10 cp := e7
                  have g7 : a.tmps[7]?.getD undef = .slice (some ⟨gb, 0, none⟩) 10 cp := by rw [← Array.getD_eq_getD_getElem?]; exact e7
                  refine opU_val (C := fun w' => Below w.heap.size w w' ∧ (w'.cell? ⟨gb, 1, none⟩ = some (.int .i64 x1) ∧ w'.cell? ⟨gb, 2, none⟩ = some (.int .i64 x2) ∧ w'.cell? ⟨gb, 3, none⟩ = some (.int .i64 x3) ∧ w'.cell? ⟨gb, 4, none⟩ = some (.int .i64 x4) ∧ w'.cell? ⟨gb, 5, none⟩ = some (.int .i64 x5) ∧ w'.cell? ⟨gb, 7, none⟩ = some (.int .i64 x7) ∧ w'.cell? ⟨gb, 8, none⟩ = some (.int .i64 (N8 : Int))) ∧ (w'.heap[w.heap.size]? = some (.cells zeroC.cells.toArray 48 (0, 0)) ∨ w'.heap[w.heap.size]? = some (.cells #[.int .i64 x1, .int .i64 x2, .int .i64 x3, .int .i64 x4, .int .i64 x5, .int .i64 x7, .string ct, .string dd] 48 (0, 0)))) (St := fun x y => y.heap[w.heap.size]? = x.heap[w.heap.size]? ∨ y.heap[w.heap.size]? = some (.cells #[.int .i64 x1, .int .i64 x2, .int .i64 x3, .int .i64 x4, .int .i64 x5, .int .i64 x7, .string ct, .string dd] 48 (0, 0))) (V := fun dq vq _ => match dq with | 140 => vq = .slice (some ⟨gb, 0, none⟩) 10 cp | 141 => vq = .pointer (some ⟨gb, 1, none⟩) | 142 => vq = .int .i64 x1 | 143 => vq = .slice (some ⟨gb, 0, none⟩) 10 cp | 144 => vq = .pointer (some ⟨gb, 2, none⟩) | 145 => vq = .int .i64 x2 | 146 => vq = .slice (some ⟨gb, 0, none⟩) 10 cp | 147 => vq = .pointer (some ⟨gb, 3, none⟩) | 148 => vq = .int .i64 x3 | 149 => vq = .slice (some ⟨gb, 0, none⟩) 10 cp | 150 => vq = .pointer (some ⟨gb, 4, none⟩) | 151 => vq = .int .i64 x4 | 152 => vq = .slice (some ⟨gb, 0, none⟩) 10 cp | 153 => vq = .pointer (some ⟨gb, 5, none⟩) | 154 => vq = .int .i64 x5 | 155 => vq = .slice (some ⟨gb, 0, none⟩) 10 cp | 156 => vq = .pointer (some ⟨gb, 7, none⟩) | 157 => vq = .int .i64 x7 | 158 => vq = .string nm | 159 => vq = .slice (some ⟨gb, 0, none⟩) 10 cp | 160 => vq = .pointer (some ⟨gb, 8, none⟩) | 161 => vq = .int .i64 (N8 : Int) | 162 => vq = .int .i64 ((N8 : Int) - 1) | 163 => vq = .string ct | 164 => vq = .string s | 165 => vq = .int .i64 (p : Int) | 166 => vq = .slice (some ⟨gb, 0, none⟩) 10 cp | 167 => vq = .pointer (some ⟨gb, 8, none⟩) | 168 => vq = .int .i64 (N8 : Int) | 169 => vq = .int .i64 ((p : Int) + (N8 : Int)) | 170 => vq = .int .i64 ((p : Int) + (N8 : Int) + (N9 : Int)) | 171 => vq = .string dd | 172 => vq = .agg #[.int .i64 x1, .int .i64 x2, .int .i64 x3, .int .i64 x4, .int .i64 x5, .int .i64 x7, .string ct, .string dd] | 173 => vq = .int .i64 ((p : Int) + (N8 : Int) + (N9 : Int)) | 5 => vq = .int .i64 ((p : Int) + (N8 : Int) + (N9 : Int)) | 6 => vq = .int .i64 0 | _ => True) (U := fun o w' => o.dst = none → w'.heap[w.heap.size]? = some (.cells #[.int .i64 x1, .int .i64 x2, .int .i64 x3, .int .i64 x4, .int .i64 x5, .int .i64 x7, .string ct, .string dd] 48 (0, 0))) (w' := w2) (.slice (some ⟨gb, 0, none⟩) 10 cp) ?_ ?_ ?_ ?_ ?_
                  · (clear hV hI hC; go_simp <;> (first | rfl | simp | (rw [IntKind.wrap_i64]; omega)))
                  · exact hC
                  · exact Or.inl rfl
                  · intro d hd; cases hd; rfl
                  · intro h; cases h
                case o153 =>
                  intro Q a w2 hC hV hI
                  have e152 : a.eval (.tmp 152) = .slice (some ⟨gb, 0, none⟩) 10 cp := hV 152 (by simp [Op.operands]) (by kernel_rfl)
                  have f152 : a.tmps.getD 152 undef = .slice (some ⟨gb, 0, none⟩) 10 cp := e152
                  have g152 : a.tmps[152]?.getD undef = .slice (some ⟨gb, 0, none⟩) 10 cp := by rw [← Array.getD_eq_getD_getElem?]; exact e152
                  refine opU_val (C := fun w' => Below w.heap.size w w' ∧ (w'.cell? ⟨gb, 1, none⟩ = some (.int .i64 x1) ∧ w'.cell? ⟨gb, 2, none⟩ = some (.int .i64 x2) ∧ w'.cell? ⟨gb, 3, none⟩ = some (.int .i64 x3) ∧ w'.cell? ⟨gb, 4, none⟩ = some (.int .i64 x4) ∧ w'.cell? ⟨gb, 5, none⟩ = some (.int .i64 x5) ∧ w'.cell? ⟨gb, 7, none⟩ = some (.int .i64 x7) ∧ w'.cell? ⟨gb, 8, none⟩ = some (.int .i64 (N8 : Int))) ∧ (w'.heap[w.heap.size]? = some (.cells zeroC.cells.toArray 48 (0, 0)) ∨ w'.heap[w.heap.size]? = some (.cells #[.int .i64 x1, .int .i64 x2, .int .i64 x3, .int .i64 x4, .int .i64 x5, .int .i64 x7, .string ct, .string dd] 48 (0, 0)))) (St := fun x y => y.heap[w.heap.size]? = x.heap[w.heap.size]? ∨ y.heap[w.heap.size]? = some (.cells #[.int .i64 x1, .int .i64 x2, .int .i64 x3, .int .i64 x4, .int .i64 x5, .int .i64 x7, .string ct, .string dd] 48 (0, 0))) (V := fun dq vq _ => match dq with | 140 => vq = .slice (some ⟨gb, 0, none⟩) 10 cp | 141 => vq = .pointer (some ⟨gb, 1, none⟩) | 142 => vq = .int .i64 x1 | 143 => vq = .slice (some ⟨gb, 0, none⟩) 10 cp | 144 => vq = .pointer (some ⟨gb, 2, none⟩) | 145 => vq = .int .i64 x2 | 146 => vq = .slice (some ⟨gb, 0, none⟩) 10 cp | 147 => vq = .pointer (some ⟨gb, 3, none⟩) | 148 => vq = .int .i64 x3 | 149 => vq = .slice (some ⟨gb, 0, none⟩) 10 cp | 150 => vq = .pointer (some ⟨gb, 4, none⟩) | 151 => vq = .int .i64 x4 | 152 => vq = .slice (some ⟨gb, 0, none⟩) 10 cp | 153 => vq = .pointer (some ⟨gb, 5, none⟩) | 154 => vq = .int .i64 x5 | 155 => vq = .slice (some ⟨gb, 0, none⟩) 10 cp | 156 => vq = .pointer (some ⟨gb, 7, none⟩) | 157 => vq = .int .i64 x7 | 158 => vq = .string nm | 159 => vq = .slice (some ⟨gb, 0, none⟩) 10 cp | 160 => vq = .pointer (some ⟨gb, 8, none⟩) | 161 => vq = .int .i64 (N8 : Int) | 162 => vq = .int .i64 ((N8 : Int) - 1) | 163 => vq = .string ct | 164 => vq = .string s | 165 => vq = .int .i64 (p : Int) | 166 => vq = .slice (some ⟨gb, 0, none⟩) 10 cp | 167 => vq = .pointer (some ⟨gb, 8, none⟩) | 168 => vq = .int .i64 (N8 : Int) | 169 => vq = .int .i64 ((p : Int) + (N8 : Int)) | 170 => vq = .int .i64 ((p : Int) + (N8 : Int) + (N9 : Int)) | 171 => vq = .string dd | 172 => vq = .agg #[.int .i64 x1, .int .i64 x2, .int .i64 x3, .int .i64 x4, .int .i64 x5, .int .i64 x7, .string ct, .string dd] | 173 => vq = .int .i64 ((p : Int) + (N8 : Int) + (N9 : Int)) | 5 => vq = .int .i64 ((p : Int) + (N8 : Int) + (N9 : Int)) | 6 => vq = .int .i64 0 | _ => True) (U := fun o w' => o.dst = none → w'.heap[w.heap.size]? = some (.cells #[.int .i64 x1, .int .i64 x2, .int .i64 x3, .int .i64 x4, .int .i64 x5, .int .i64 x7, .string ct, .string dd] 48 (0, 0))) (w' := w2) (.pointer (some ⟨gb, 5, none⟩)) ?_ ?_ ?_ ?_ ?_
                  · (clear hV hI hC; go_simp <;> (first | rfl | simp | (rw [IntKind.wrap_i64]; omega)))
                  · exact hC
                  · exact Or.inl rfl
                  · intro d hd; cases hd; rfl
                  · intro h; cases h
                case o154 =>
                  intro Q a w2 hC hV hI
                  have e153 : a.eval (.tmp 153) = .pointer (some ⟨gb, 5, none⟩) := hV 153 (by simp [Op.operands]) (by kernel_rfl)
                  have f153 : a.tmps.getD 153 undef = .pointer (some ⟨gb, 5, none⟩) := e153
                  have g153 : a.tmps[153]?.getD undef = .pointer (some ⟨gb, 5, none⟩) := by rw [← Array.getD_eq_getD_getElem?]; exact e153
                  have hK := KC.out w2 hC.2.1
                  refine opU_val (C := fun w' => Below w.heap.size w w' ∧ (w'.cell? ⟨gb, 1, none⟩ = some (.int .i64 x1) ∧ w'.cell? ⟨gb, 2, none⟩ = some (.int .i64 x2) ∧ w'.cell? ⟨gb, 3, none⟩ = some (.int .i64 x3) ∧ w'.cell? ⟨gb, 4, none⟩ = some (.int .i64 x4) ∧ w'.cell? ⟨gb, 5, none⟩ = some (.int .i64 x5) ∧ w'.cell? ⟨gb, 7, none⟩ = some (.int .i64 x7) ∧ w'.cell? ⟨gb, 8, none⟩ = some (.int .i64 (N8 : Int))) ∧ (w'.heap[w.heap.size]? = some (.cells zeroC.cells.toArray 48 (0, 0)) ∨ w'.heap[w.heap.size]? = some (.cells #[.int .i64 x1, .int .i64 x2, .int .i64 x3, .int .i64 x4, .int .i64 x5, .int .i64 x7, .string ct, .string dd] 48 (0, 0)))) (St := fun x y => y.heap[w.heap.size]? = x.heap[w.heap.size]? ∨ y.heap[w.heap.size]? = some (.cells #[.int .i64 x1, .int .i64 x2, .int .i64 x3, .int .i64 x4, .int .i64 x5, .int .i64 x7, .string ct, .string dd] 48 (0, 0))) (V := fun dq vq _ => match dq with | 140 => vq = .slice (some ⟨gb, 0, none⟩) 10 cp | 141 => vq = .pointer (some ⟨gb, 1, none⟩) | 142 => vq = .int .i64 x1 | 143 => vq = .slice (some ⟨gb, 0, none⟩) 10 cp | 144 => vq = .pointer (some ⟨gb, 2, none⟩) | 145 => vq = .int .i64 x2 | 146 => vq = .slice (some ⟨gb, 0, none⟩) 10 cp | 147 => vq = .pointer (some ⟨gb, 3, none⟩) | 148 => vq = .int .i64 x3 | 149 => vq = .slice (some ⟨gb, 0, none⟩) 10 cp | 150 => vq = .pointer (some ⟨gb, 4, none⟩) | 151 => vq = .int .i64 x4 | 152 => vq = .slice (some ⟨gb, 0, none⟩) 10 cp | 153 => vq = .pointer (some ⟨gb, 5, none⟩) | 154 => vq = .int .i64 x5 | 155 => vq = .slice (some ⟨gb, 0, none⟩) 10 cp | 156 => vq = .pointer (some ⟨gb, 7, none⟩) | 157 => vq = .int .i64 x7 | 158 => vq = .string nm | 159 => vq = .slice (some ⟨gb, 0, none⟩) 10 cp | 160 => vq = .pointer (some ⟨gb, 8, none⟩) | 161 => vq = .int .i64 (N8 : Int) | 162 => vq = .int .i64 ((N8 : Int) - 1) | 163 => vq = .string ct | 164 => vq = .string s | 165 => vq = .int .i64 (p : Int) | 166 => vq = .slice (some ⟨gb, 0, none⟩) 10 cp | 167 => vq = .pointer (some ⟨gb, 8, none⟩) | 168 => vq = .int .i64 (N8 : Int) | 169 => vq = .int .i64 ((p : Int) + (N8 : Int)) | 170 => vq = .int .i64 ((p : Int) + (N8 : Int) + (N9 : Int)) | 171 => vq = .string dd | 172 => vq = .agg #[.int .i64 x1, .int .i64 x2, .int .i64 x3, .int .i64 x4, .int .i64 x5, .int .i64 x7, .string ct, .string dd] | 173 => vq = .int .i64 ((p : Int) + (N8 : Int) + (N9 : Int)) | 5 => vq = .int .i64 ((p : Int) + (N8 : Int) + (N9 : Int)) | 6 => vq = .int .i64 0 | _ => True) (U := fun o w' => o.dst = none → w'.heap[w.heap.size]? = some (.cells #[.int .i64 x1, .int .i64 x2, .int .i64 x3, .int .i64 x4, .int .i64 x5, .int .i64 x7, .string ct, .string dd] 48 (0, 0))) (w' := w2) (.int .i64 x5) ?_ ?_ ?_ ?_ ?_
                  · (clear hV hI hC; go_simp <;> (first | rfl | simp | (rw [IntKind.wrap_i64]; omega)))
                  · exact hC
                  · exact Or.inl rfl
                  · intro d hd; cases hd; rfl
                  · intro h; cases h
                case o155 =>
                  intro Q a w2 hC hV hI
                  have e7 : a.eval (.tmp 7) = .slice (some ⟨gb, 0, none⟩) 10 cp := (hI 7 (by simp [Op.operands]) (by kernel_rfl)).trans rfl
                  have f7 : a.tmps.getD 7 undef = .slice (some ⟨gb, 0, none⟩) 10 cp := e7
                  have g7 : a.tmps[7]?.getD undef = .slice (some ⟨gb, 0, none⟩) 10 cp := by rw [← Array.getD_eq_getD_getElem?]; exact e7
                  refine opU_val (C := fun w' => Below w.heap.size w w' ∧ (w'.cell? ⟨gb, 1, none⟩ = some (.int .i64 x1) ∧ w'.cell? ⟨gb, 2, none⟩ = some (.int .i64 x2) ∧ w'.cell? ⟨gb, 3, none⟩ = some (.int .i64 x3) ∧ w'.cell? ⟨gb, 4, none⟩ = some (.int .i64 x4) ∧ w'.cell? ⟨gb, 5, none⟩ = some (.int .i64 x5) ∧ w'.cell? ⟨gb, 7, none⟩ = some (.int .i64 x7) ∧ w'.cell? ⟨gb, 8, none⟩ = some (.int .i64 (N8 : Int))) ∧ (w'.heap[w.heap.size]? = some (.cells zeroC.cells.toArray 48 (0, 0)) ∨ w'.heap[w.heap.size]? = some (.cells #[.int .i64 x1, .int .i64 x2, .int .i64 x3, .int .i64 x4, .int .i64 x5, .int .i64 x7, .string ct, .string dd] 48 (0, 0)))) (St := fun x y => y.heap[w.heap.size]? = x.heap[w.heap.size]? ∨ y.heap[w.heap.size]? = some (.cells #[.int .i64 x1, .int .i64 x2, .int .i64 x3, .int .i64 x4, .int .i64 x5, .int .i64 x7, .string ct, .string dd] 48 (0, 0))) (V := fun dq vq _ => match dq with | 140 => vq = .slice (some ⟨gb, 0, none⟩) 10 cp | 141 => vq = .pointer (some ⟨gb, 1, none⟩) | 142 => vq = .int .i64 x1 | 143 => vq = .slice (some ⟨gb, 0, none⟩) 10 cp | 144 => vq = .pointer (some ⟨gb, 2, none⟩) | 145 => vq = .int .i64 x2 | 146 => vq = .slice (some ⟨gb, 0, none⟩) 10 cp | 147 => vq = .pointer (some ⟨gb, 3, none⟩) | 148 => vq = .int .i64 x3 | 149 => vq = .slice (some ⟨gb, 0, none⟩) 10 cp | 150 => vq = .pointer (some ⟨gb, 4, none⟩) | 151 => vq = .int .i64 x4 | 152 => vq = .slice (some ⟨gb, 0, none⟩) 10 cp | 153 => vq = .pointer (some ⟨gb, 5, none⟩) | 154 => vq = .int .i64 x5 | 155 => vq = .slice (some ⟨gb, 0, none⟩) 10 cp | 156 => vq = .pointer (some ⟨gb, 7, none⟩) | 157 => vq = .int .i64 x7 | 158 => vq = .string nm | 159 => vq = .slice (some ⟨gb, 0, none⟩) 10 cp | 160 => vq = .pointer (some ⟨gb, 8, none⟩) | 161 => vq = .int .i64 (N8 : Int) | 162 => vq = .int .i64 ((N8 : Int) - 1) | 163 => vq = .string ct | 164 => vq = .string s | 165 => vq = .int .i64 (p : Int) | 166 => vq = .slice (some ⟨gb, 0, none⟩) 10 cp | 167 => vq = .pointer (some ⟨gb, 8, none⟩) | 168 => vq = .int .i64 (N8 : Int) | 169 => vq = .int .i64 ((p : Int) + (N8 : Int)) | 170 => vq = .int .i64 ((p : Int) + (N8 : Int) + (N9 : Int)) | 171 => vq = .string dd | 172 => vq = .agg #[.int .i64 x1, .int .i64 x2, .int .i64 x3, .int .i64 x4, .int .i64 x5, .int .i64 x7, .string ct, .string dd] | 173 => vq = .int .i64 ((p : Int) + (N8 : Int) + (N9 : Int)) | 5 => vq = .int .i64 ((p : Int) + (N8 : Int) + (N9 : Int)) | 6 => vq = .int .i64 0 | _ => True) (U := fun o w' => o.dst = none → w'.heap[w.heap.size]? = some (.cells #[.int .i64 x1, .int .i64 x2, .int .i64 x3, .int .i64 x4, .int .i64 x5, .int .i64 x7, .string ct, .string dd] 48 (0, 0))) (w' := w2) (.slice (some ⟨gb, 0, none⟩) 10 cp) ?_ ?_ ?_ ?_ ?_
                  · (clear hV hI hC; go_simp <;> (first | rfl | simp | (rw [IntKind.wrap_i64]; omega)))
                  · exact hC
                  · exact Or.inl rfl
                  · intro d hd; cases hd; rfl
                  · intro h; cases h
                case o156 =>
                  intro Q a w2 hC hV hI
                  have e155 : a.eval (.tmp 155) = .slice (some ⟨gb, 0, none⟩) 10 cp := hV 155 (by simp [Op.operands]) (by kernel_rfl)
                  have f155 : a.tmps.getD 155 undef = .slice (some ⟨gb, 0, none⟩) 10 cp := e155
                  have g155 : a.tmps[155]?.getD undef = .slice (some ⟨gb, 0, none⟩) 10 cp := by rw [← Array.getD_eq_getD_getElem?]; exact e155
                  refine opU_val (C := fun w' => Below w.heap.size w w' ∧ (w'.cell? ⟨gb, 1, none⟩ = some (.int .i64 x1) ∧ w'.cell? ⟨gb, 2, none⟩ = some (.int .i64 x2) ∧ w'.cell? ⟨gb, 3, none⟩ = some (.int .i64 x3) ∧ w'.cell? ⟨gb, 4, none⟩ = some (.int .i64 x4) ∧ w'.cell? ⟨gb, 5, none⟩ = some (.int .i64 x5) ∧ w'.cell? ⟨gb, 7, none⟩ = some (.int .i64 x7) ∧ w'.cell? ⟨gb, 8, none⟩ = some (.int .i64 (N8 : Int))) ∧ (w'.heap[w.heap.size]? = some (.cells zeroC.cells.toArray 48 (0, 0)) ∨ w'.heap[w.heap.size]? = some (.cells #[.int .i64 x1, .int .i64 x2, .int .i64 x3, .int .i64 x4, .int .i64 x5, .int .i64 x7, .string ct, .string dd] 48 (0, 0)))) (St := fun x y => y.heap[w.heap.size]? = x.heap[w.heap.size]? ∨ y.heap[w.heap.size]? = some (.cells #[.int .i64 x1, .int .i64 x2, .int .i64 x3, .int .i64 x4, .int .i64 x5, .int .i64 x7, .string ct, .string dd] 48 (0, 0))) (V := fun dq vq _ => match dq with | 140 => vq = .slice (some ⟨gb, 0, none⟩) 10 cp | 141 => vq = .pointer (some ⟨gb, 1, none⟩) | 142 => vq = .int .i64 x1 | 143 => vq = .slice (some ⟨gb, 0, none⟩) 10 cp | 144 => vq = .pointer (some ⟨gb, 2, none⟩) | 145 => vq = .int .i64 x2 | 146 => vq = .slice (some ⟨gb, 0, none⟩) 10 cp | 147 => vq = .pointer (some ⟨gb, 3, none⟩) | 148 => vq = .int .i64 x3 | 149 => vq = .slice (some ⟨gb, 0, none⟩) 10 cp | 150 => vq = .pointer (some ⟨gb, 4, none⟩) | 151 => vq = .int .i64 x4 | 152 => vq = .slice (some ⟨gb, 0, none⟩) 10 cp | 153 => vq = .pointer (some ⟨gb, 5, none⟩) | 154 => vq = .int .i64 x5 | 155 => vq = .slice (some ⟨gb, 0, none⟩) 10 cp | 156 => vq = .pointer (some ⟨gb, 7, none⟩) | 157 => vq = .int .i64 x7 | 158 => vq = .string nm | 159 => vq = .slice (some ⟨gb, 0, none⟩) 10 cp | 160 => vq = .pointer (some ⟨gb, 8, none⟩) | 161 => vq = .int .i64 (N8 : Int) | 162 => vq = .int .i64 ((N8 : Int) - 1) | 163 => vq = .string ct | 164 => vq = .string s | 165 => vq = .int .i64 (p : Int) | 166 => vq = .slice (some ⟨gb, 0, none⟩) 10 cp | 167 => vq = .pointer (some ⟨gb, 8, none⟩) | 168 => vq = .int .i64 (N8 : Int) | 169 => vq = .int .i64 ((p : Int) + (N8 : Int)) | 170 => vq = .int .i64 ((p : Int) + (N8 : Int) + (N9 : Int)) | 171 => vq = .string dd | 172 => vq = .agg #[.int .i64 x1, .int .i64 x2, .int .i64 x3, .int .i64 x4, .int .i64 x5, .int .i64 x7, .string ct, .string dd] | 173 => vq = .int .i64 ((p : Int) + (N8 : Int) + (N9 : Int)) | 5 => vq = .int .i64 ((p : Int) + (N8 : Int) + (N9 : Int)) | 6 => vq = .int .i64 0 | _ => True) (U := fun o w' => o.dst = none → w'.heap[w.heap.size]? = some (.cells #[.int .i64 x1, .int .i64 x2, .int .i64 x3, .int .i64 x4, .int .i64 x5, .int .i64 x7, .string ct, .string dd] 48 (0, 0))) (w' := w2) (.pointer (some ⟨gb, 7, none⟩)) ?_ ?_ ?_ ?_ ?_
                  · (clear hV hI hC; go_simp <;> (first | rfl | simp | (rw [IntKind.wrap_i64]; omega)))
                  · exact hC
                  · exact Or.inl rfl
                  · intro d hd; cases hd; rfl
                  · intro h; cases h
                case o157 =>
                  intro Q a w2 hC hV hI
                  have e156 : a.eval (.tmp 156) = .pointer (some ⟨gb, 7, none⟩) := hV 156 (by simp [Op.operands]) (by kernel_rfl)
                  have f156 : a.tmps.getD 156 undef = .pointer (some ⟨gb, 7, none⟩) := e156
                  have g156 : a.tmps[156]?.getD undef = .pointer (some ⟨gb, 7, none⟩) := by rw [← Array.getD_eq_getD_getElem?]; exact e156
                  have hK := KC.out w2 hC.2.1
                  refine opU_val (C := fun w' => Below w.heap.size w w' ∧ (w'.cell? ⟨gb, 1, none⟩ = some (.int .i64 x1) ∧ w'.cell? ⟨gb, 2, none⟩ = some (.int .i64 x2) ∧ w'.cell? ⟨gb, 3, none⟩ = some (.int .i64 x3) ∧ w'.cell? ⟨gb, 4, none⟩ = some (.int .i64 x4) ∧ w'.cell? ⟨gb, 5, none⟩ = some (.int .i64 x5) ∧ w'.cell? ⟨gb, 7, none⟩ = some (.int .i64 x7) ∧ w'.cell? ⟨gb, 8, none⟩ = some (.int .i64 (N8 : Int))) ∧ (w'.heap[w.heap.size]? = some (.cells zeroC.cells.toArray 48 (0, 0)) ∨ w'.heap[w.heap.size]? = some (.cells #[.int .i64 x1, .int .i64 x2, .int .i64 x3, .int .i64 x4, .int .i64 x5, .int .i64 x7, .string ct, .string dd] 48 (0, 0)))) (St := fun x y => y.heap[w.heap.size]? = x.heap[w.heap.size]? ∨ y.heap[w.heap.size]? = some (.cells #[.int .i64 x1, .int .i64 x2, .int .i64 x3, .int .i64 x4, .int .i64 x5, .int .i64 x7, .string ct, .string dd] 48 (0, 0))) (V := fun dq vq _ => match dq with | 140 => vq = .slice (some ⟨gb, 0, none⟩) 10 cp | 141 => vq = .pointer (some ⟨gb, 1, none⟩) | 142 => vq = .int .i64 x1 | 143 => vq = .slice (some ⟨gb, 0, none⟩) 10 cp | 144 => vq = .pointer (some ⟨gb, 2, none⟩) | 145 => vq = .int .i64 x2 | 146 => vq = .slice (some ⟨gb, 0, none⟩) 10 cp | 147 => vq = .pointer (some ⟨gb, 3, none⟩) | 148 => vq = .int .i64 x3 | 149 => vq = .slice (some ⟨gb, 0, none⟩) 10 cp | 150 => vq = .pointer (some ⟨gb, 4, none⟩) | 151 => vq = .int .i64 x4 | 152 => vq = .slice (some ⟨gb, 0, none⟩) 10 cp | 153 => vq = .pointer (some ⟨gb, 5, none⟩) | 154 => vq = .int .i64 x5 | 155 => vq = .slice (some ⟨gb, 0, none⟩) 10 cp | 156 => vq = .pointer (some ⟨gb, 7, none⟩) | 157 => vq = .int .i64 x7 | 158 => vq = .string nm | 159 => vq = .slice (some ⟨gb, 0, none⟩) 10 cp | 160 => vq = .pointer (some ⟨gb, 8, none⟩) | 161 => vq = .int .i64 (N8 : Int) | 162 => vq = .int .i64 ((N8 : Int) - 1) | 163 => vq = .string ct | 164 => vq = .string s | 165 => vq = .int .i64 (p : Int) | 166 => vq = .slice (some ⟨gb, 0, none⟩) 10 cp | 167 => vq = .pointer (some ⟨gb, 8, none⟩) | 168 => vq = .int .i64 (N8 : Int) | 169 => vq = .int .i64 ((p : Int) + (N8 : Int)) | 170 => vq = .int .i64 ((p : Int) + (N8 : Int) + (N9 : Int)) | 171 => vq = .string dd | 172 => vq = .agg #[.int .i64 x1, .int .i64 x2, .int .i64 x3, .int .i64 x4, .int .i64 x5, .int .i64 x7, .string ct, .string dd] | 173 => vq = .int .i64 ((p : Int) + (N8 : Int) + (N9 : Int)) | 5 => vq = .int .i64 ((p : Int) + (N8 : Int) + (N9 : Int)) | 6 => vq = .int .i64 0 | _ => True) (U := fun o w' => o.dst = none → w'.heap[w.heap.size]? = some (.cells #[.int .i64 x1, .int .i64 x2, .int .i64 x3, .int .i64 x4, .int .i64 x5, .int .i64 x7, .string ct, .string dd] 48 (0, 0))) (w' := w2) (.int .i64 x7) ?_ ?_ ?_ ?_ ?_
                  · (clear hV hI hC; go_simp <;> (first | rfl | simp | (rw [IntKind.wrap_i64]; omega)))
                  · exact hC
                  · exact Or.inl rfl
                  · intro d hd; cases hd; rfl
                  · intro h; cases h
                case o158 =>
                  intro Q a w2 hC hV hI
                  have e13 : a.eval (.tmp 13) = .string nm := (hI 13 (by simp [Op.operands]) (by kernel_rfl)).trans rfl
                  have f13 : a.tmps.getD 13 undef = .string nm := e13
                  have g13 : a.tmps[13]?.getD undef = .string nm := by rw [← Array.getD_eq_getD_getElem?]; exact e13
                  refine opU_val (C := fun w' => Below w.heap.size w w' ∧ (w'.cell? ⟨gb, 1, none⟩ = some (.int .i64 x1) ∧ w'.cell? ⟨gb, 2, none⟩ = some (.int .i64 x2) ∧ w'.cell? ⟨gb, 3, none⟩ = some (.int .i64 x3) ∧ w'.cell? ⟨gb, 4, none⟩ = some (.int .i64 x4) ∧ w'.cell? ⟨gb, 5, none⟩ = some (.int .i64 x5) ∧ w'.cell? ⟨gb, 7, none⟩ = some (.int .i64 x7) ∧ w'.cell? ⟨gb, 8, none⟩ = some (.int .i64 (N8 : Int))) ∧ (w'.heap[w.heap.size]? = some (.cells zeroC.cells.toArray 48 (0, 0)) ∨ w'.heap[w.heap.size]? = some (.cells #[.int .i64 x1, .int .i64 x2, .int .i64 x3, .int .i64 x4, .int .i64 x5, .int .i64 x7, .string ct, .string dd] 48 (0, 0)))) (St := fun x y => y.heap[w.heap.size]? = x.heap[w.heap.size]? ∨ y.heap[w.heap.size]? = some (.cells #[.int .i64 x1, .int .i64 x2, .int .i64 x3, .int .i64 x4, .int .i64 x5, .int .i64 x7, .string ct, .string dd] 48 (0, 0))) (V := fun dq vq _ => match dq with | 140 => vq = .slice (some ⟨gb, 0, none⟩) 10 cp | 141 => vq = .pointer (some ⟨gb, 1, none⟩) | 142 => vq = .int .i64 x1 | 143 => vq = .slice (some ⟨gb, 0, none⟩) 10 cp | 144 => vq = .pointer (some ⟨gb, 2, none⟩) | 145 => vq = .int .i64 x2 | 146 => vq = .slice (some ⟨gb, 0, none⟩) 10 cp | 147 => vq = .pointer (some ⟨gb, 3, none⟩) | 148 => vq = .int .i64 x3 | 149 => vq = .slice (some ⟨gb, 0, none⟩) 10 cp | 150 => vq = .pointer (some ⟨gb, 4, none⟩) | 151 => vq = .int .i64 x4 | 152 => vq = .slice (some ⟨gb, 0, none⟩) 10 cp | 153 => vq = .pointer (some ⟨gb, 5, none⟩) | 154 => vq = .int .i64 x5 | 155 => vq = .slice (some ⟨gb, 0, none⟩) 10 cp | 156 => vq = .pointer (some ⟨gb, 7, none⟩) | 157 => vq = .int .i64 x7 | 158 => vq = .string nm | 159 => vq = .slice (some ⟨gb, 0, none⟩) 10 cp | 160 => vq = .pointer (some ⟨gb, 8, none⟩) | 161 => vq = .int .i64 (N8 : Int) | 162 => vq = .int .i64 ((N8 : Int) - 1) | 163 => vq = .string ct | 164 => vq = .string s | 165 => vq = .int .i64 (p : Int) | 166 => vq = .slice (some ⟨gb, 0, none⟩) 10 cp | 167 => vq = .pointer (some ⟨gb, 8, none⟩) | 168 => vq = .int .i64 (N8 : Int) | 169 => vq = .int .i64 ((p : Int) + (N8 : Int)) | 170 => vq = .int .i64 ((p : Int) + (N8 : Int) + (N9 : Int)) | 171 => vq = .string dd | 172 => vq = .agg #[.int .i64 x1, .int .i64 x2, .int .i64 x3, .int .i64 x4, .int .i64 x5, .int .i64 x7, .string ct, .string dd] | 173 => vq = .int .i64 ((p : Int) + (N8 : Int) + (N9 : Int)) | 5 => vq = .int .i64 ((p : Int) + (N8 : Int) + (N9 : Int)) | 6 => vq = .int .i64 0 | _ => True) (U := fun o w' => o.dst = none → w'.heap[w.heap.size]? = some (.cells #[.int .i64 x1, .int .i64 x2, .int .i64 x3, .int .i64 x4, .int .i64 x5, .int .i64 x7, .string ct, .string dd] 48 (0, 0))) (w' := w2) (.string nm) ?_ ?_ ?_ ?_ ?_
                  · (clear hV hI hC; go_simp <;> (first | rfl | simp | (rw [IntKind.wrap_i64]; omega)))
                  · exact hC
                  · exact Or.inl rfl
                  · intro d hd; cases hd; rfl
                  · intro h; cases h
                case o159 =>
                  intro Q a w2 hC hV hI
                  have e7 : a.eval (.tmp 7) = .slice (some ⟨gb, 0, none⟩) 10 cp := (hI 7 (by simp [Op.operands]) (by kernel_rfl)).trans rfl
                  have f7 : a.tmps.getD 7 undef = .slice (some ⟨gb, 0, none⟩) 10 cp := e7
                  have g7 : a.tmps[7]?.getD undef = .slice (some ⟨gb, 0, none⟩) 10 cp := by rw [← Array.getD_eq_getD_getElem?]; exact e7
                  refine opU_val (C := fun w' => Below w.heap.size w w' ∧ (w'.cell? ⟨gb, 1, none⟩ = some (.int .i64 x1) ∧ w'.cell? ⟨gb, 2, none⟩ = some (.int .i64 x2) ∧ w'.cell? ⟨gb, 3, none⟩ = some (.int .i64 x3) ∧ w'.cell? ⟨gb, 4, none⟩ = some (.int .i64 x4) ∧ w'.cell? ⟨gb, 5, none⟩ = some (.int .i64 x5) ∧ w'.cell? ⟨gb, 7, none⟩ = some (.int .i64 x7) ∧ w'.cell? ⟨gb, 8, none⟩ = some (.int .i64 (N8 : Int))) ∧ (w'.heap[w.heap.size]? = some (.cells zeroC.cells.toArray 48 (0, 0)) ∨ w'.heap[w.heap.size]? = some (.cells #[.int .i64 x1, .int .i64 x2, .int .i64 x3, .int .i64 x4, .int .i64 x5, .int .i64 x7, .string ct, .string dd] 48 (0, 0)))) (St := fun x y => y.heap[w.heap.size]? = x.heap[w.heap.size]? ∨ y.heap[w.heap.size]? = some (.cells #[.int .i64 x1, .int .i64 x2, .int .i64 x3, .int .i64 x4, .int .i64 x5, .int .i64 x7, .string ct, .string dd] 48 (0, 0))) (V := fun dq vq _ => match dq with | 140 => vq = .slice (some ⟨gb, 0, none⟩) 10 cp | 141 => vq = .pointer (some ⟨gb, 1, none⟩) | 142 => vq = .int .i64 x1 | 143 => vq = .slice (some ⟨gb, 0, none⟩) 10 cp | 144 => vq = .pointer (some ⟨gb, 2, none⟩) | 145 => vq = .int .i64 x2 | 146 => vq = .slice (some ⟨gb, 0, none⟩) 10 cp | 147 => vq = .pointer (some ⟨gb, 3, none⟩) | 148 => vq = .int .i64 x3 | 149 => vq = .slice (some ⟨gb, 0, none⟩) 10 cp | 150 => vq = .pointer (some ⟨gb, 4, none⟩) | 151 => vq = .int .i64 x4 | 152 => vq = .slice (some ⟨gb, 0, none⟩) 10 cp | 153 => vq = .pointer (some ⟨gb, 5, none⟩) | 154 => vq = .int .i64 x5 | 155 => vq = .slice (some ⟨gb, 0, none⟩) 10 cp | 156 => vq = .pointer (some ⟨gb, 7, none⟩) | 157 => vq = .int .i64 x7 | 158 => vq = .string nm | 159 => vq = .slice (some ⟨gb, 0, none⟩) 10 cp | 160 => vq = .pointer (some ⟨gb, 8, none⟩) | 161 => vq = .int .i64 (N8 : Int) | 162 => vq = .int .i64 ((N8 : Int) - 1) | 163 => vq = .string ct | 164 => vq = .string s | 165 => vq = .int .i64 (p : Int) | 166 => vq = .slice (some ⟨gb, 0, none⟩) 10 cp | 167 => vq = .pointer (some ⟨gb, 8, none⟩) | 168 => vq = .int .i64 (N8 : Int) | 169 => vq = .int .i64 ((p : Int) + (N8 : Int)) | 170 => vq = .int .i64 ((p : Int) + (N8 : Int) + (N9 : Int)) | 171 => vq = .string dd | 172 => vq = .agg #[.int .i64 x1, .int .i64 x2, .int .i64 x3, .int .i64 x4, .int .i64 x5, .int .i64 x7, .string ct, .string dd] | 173 => vq = .int .i64 ((p : Int) + (N8 : Int) + (N9 : Int)) | 5 => vq = .int .i64 ((p : Int) + (N8 : Int) + (N9 : Int)) | 6 => vq = .int .i64 0 | _ => True) (U := fun o w' => o.dst = none → w'.heap[w.heap.size]? = some (.cells #[.int .i64 x1, .int .i64 x2, .int .i64 x3, .int .i64 x4, .int .i64 x5, .int .i64 x7, .string ct, .string dd] 48 (0, 0))) (w' := w2) (.slice (some ⟨gb, 0, none⟩) 10 cp) ?_ ?_ ?_ ?_ ?_
                  · (clear hV hI hC; go_simp <;> (first | rfl | simp | (rw [IntKind.wrap_i64]; omega)))
                  · exact hC
                  · exact Or.inl rfl
                  · intro d hd; cases hd; rfl
                  · intro h; cases h
                case o160 =>
                  intro Q a w2 hC hV hI
                  have e159 : a.eval (.tmp 159) = .slice (some ⟨gb, 0, none⟩) 10 cp := hV 159 (by simp [Op.operands]) (by kernel_rfl)
                  have f159 : a.tmps.getD 159 undef = .slice (some ⟨gb, 0, none⟩) 10 cp := e159
                  have g159 : a.tmps[159]?.getD undef = .slice (some ⟨gb, 0, none⟩) 10 cp := by rw [← Array.getD_eq_getD_getElem?]; exact e159
                  refine opU_val (C := fun w' => Below w.heap.size w w' ∧ (w'.cell? ⟨gb, 1, none⟩ = some (.int .i64 x1) ∧ w'.cell? ⟨gb, 2, none⟩ = some (.int .i64 x2) ∧ w'.cell? ⟨gb, 3, none⟩ = some (.int .i64 x3) ∧ w'.cell? ⟨gb, 4, none⟩ = some (.int .i64 x4) ∧ w'.cell? ⟨gb, 5, none⟩ = some (.int .i64 x5) ∧ w'.cell? ⟨gb, 7, none⟩ = some (.int .i64 x7) ∧ w'.cell? ⟨gb, 8, none⟩ = some (.int .i64 (N8 : Int))) ∧ (w'.heap[w.heap.size]? = some (.cells zeroC.cells.toArray 48 (0, 0)) ∨ w'.heap[w.heap.size]? = some (.cells #[.int .i64 x1, .int .i64 x2, .int .i64 x3, .int .i64 x4, .int .i64 x5, .int .i64 x7, .string ct, .string dd] 48 (0, 0)))) (St := fun x y => y.heap[w.heap.size]? = x.heap[w.heap.size]? ∨ y.heap[w.heap.size]? = some (.cells #[.int .i64 x1, .int .i64 x2, .int .i64 x3, .int .i64 x4, .int .i64 x5, .int .i64 x7, .string ct, .string dd] 48 (0, 0))) (V := fun dq vq _ => match dq with | 140 => vq = .slice (some ⟨gb, 0, none⟩) 10 cp | 141 => vq = .pointer (some ⟨gb, 1, none⟩) | 142 => vq = .int .i64 x1 | 143 => vq = .slice (some ⟨gb, 0, none⟩) 10 cp | 144 => vq = .pointer (some ⟨gb, 2, none⟩) | 145 => vq = .int .i64 x2 | 146 => vq = .slice (some ⟨gb, 0, none⟩) 10 cp | 147 => vq = .pointer (some ⟨gb, 3, none⟩) | 148 => vq = .int .i64 x3 | 149 => vq = .slice (some ⟨gb, 0, none⟩) 10 cp | 150 => vq = .pointer (some ⟨gb, 4, none⟩) | 151 => vq = .int .i64 x4 | 152 => vq = .slice (some ⟨gb, 0, none⟩) 10 cp | 153 => vq = .pointer (some ⟨gb, 5, none⟩) | 154 => vq = .int .i64 x5 | 155 => vq = .slice (some ⟨gb, 0, none⟩) 10 cp | 156 => vq = .pointer (some ⟨gb, 7, none⟩) | 157 => vq = .int .i64 x7 | 158 => vq = .string nm | 159 => vq = .slice (some ⟨gb, 0, none⟩) 10 cp | 160 => vq = .pointer (some ⟨gb, 8, none⟩) | 161 => vq = .int .i64 (N8 : Int) | 162 => vq = .int .i64 ((N8 : Int) - 1) | 163 => vq = .string ct | 164 => vq = .string s | 165 => vq = .int .i64 (p : Int) | 166 => vq = .slice (some ⟨gb, 0, none⟩) 10 cp | 167 => vq = .pointer (some ⟨gb, 8, none⟩) | 168 => vq = .int .i64 (N8 : Int) | 169 => vq = .int .i64 ((p : Int) + (N8 : Int)) | 170 => vq = .int .i64 ((p : Int) + (N8 : Int) + (N9 : Int)) | 171 => vq = .string dd | 172 => vq = .agg #[.int .i64 x1, .int .i64 x2, .int .i64 x3, .int .i64 x4, .int .i64 x5, .int .i64 x7, .string ct, .string dd] | 173 => vq = .int .i64 ((p : Int) + (N8 : Int) + (N9 : Int)) | 5 => vq = .int .i64 ((p : Int) + (N8 : Int) + (N9 : Int)) | 6 => vq = .int .i64 0 | _ => True) (U := fun o w' => o.dst = none → w'.heap[w.heap.size]? = some (.cells #[.int .i64 x1, .int .i64 x2, .int .i64 x3, .int .i64 x4, .int .i64 x5, .int .i64 x7, .string ct, .string dd] 48 (0, 0))) (w' := w2) (.pointer (some ⟨gb, 8, none⟩)) ?_ ?_ ?_ ?_ ?_
                  · (clear hV hI hC; go_simp <;> (first | rfl | simp | (rw [IntKind.wrap_i64]; omega)))
                  · exact hC
                  · exact Or.inl rfl
                  · intro d hd; cases hd; rfl
                  · intro h; cases h
                case o161 =>
                  intro Q a w2 hC hV hI
                  have e160 : a.eval (.tmp 160) = .pointer (some ⟨gb, 8, none⟩) := hV 160 (by simp [Op.operands]) (by kernel_rfl)
                  have f160 : a.tmps.getD 160 undef = .pointer (some ⟨gb, 8, none⟩) := e160
                  have g160 : a.tmps[160]?.getD undef = .pointer (some ⟨gb, 8, none⟩) := by rw [← Array.getD_eq_getD_getElem?]; exact e160
                  have hK := KC.out w2 hC.2.1
                  refine opU_val (C := fun w' => Below w.heap.size w w' ∧ (w'.cell? ⟨gb, 1, none⟩ = some (.int .i64 x1) ∧ w'.cell? ⟨gb, 2, none⟩ = some (.int .i64 x2) ∧ w'.cell? ⟨gb, 3, none⟩ = some (.int .i64 x3) ∧ w'.cell? ⟨gb, 4, none⟩ = some (.int .i64 x4) ∧ w'.cell? ⟨gb, 5, none⟩ = some (.int .i64 x5) ∧ w'.cell? ⟨gb, 7, none⟩ = some (.int .i64 x7) ∧ w'.cell? ⟨gb, 8, none⟩ = some (.int .i64 (N8 : Int))) ∧ (w'.heap[w.heap.size]? = some (.cells zeroC.cells.toArray 48 (0, 0)) ∨ w'.heap[w.heap.size]? = some (.cells #[.int .i64 x1, .int .i64 x2, .int .i64 x3, .int .i64 x4, .int .i64 x5, .int .i64 x7, .string ct, .string dd] 48 (0, 0)))) (St := fun x y => y.heap[w.heap.size]? = x.heap[w.heap.size]? ∨ y.heap[w.heap.size]? = some (.cells #[.int .i64 x1, .int .i64 x2, .int .i64 x3, .int .i64 x4, .int .i64 x5, .int .i64 x7, .string ct, .string dd] 48 (0, 0))) (V := fun dq vq _ => match dq with | 140 => vq = .slice (some ⟨gb, 0, none⟩) 10 cp | 141 => vq = .pointer (some ⟨gb, 1, none⟩) | 142 => vq = .int .i64 x1 | 143 => vq = .slice (some ⟨gb, 0, none⟩) 10 cp | 144 => vq = .pointer (some ⟨gb, 2, none⟩) | 145 => vq = .int .i64 x2 | 146 => vq = .slice (some ⟨gb, 0, none⟩) 10 cp | 147 => vq = .pointer (some ⟨gb, 3, none⟩) | 148 => vq = .int .i64 x3 | 149 => vq = .slice (some ⟨gb, 0, none⟩) 10 cp | 150 => vq = .pointer (some ⟨gb, 4, none⟩) | 151 => vq = .int .i64 x4 | 152 => vq = .slice (some ⟨gb, 0, none⟩) 10 cp | 153 => vq = .pointer (some ⟨gb, 5, none⟩) | 154 => vq = .int .i64 x5 | 155 => vq = .slice (some ⟨gb, 0, none⟩) 10 cp | 156 => vq = .pointer (some ⟨gb, 7, none⟩) | 157 => vq = .int .i64 x7 | 158 => vq = .string nm | 159 => vq = .slice (some ⟨gb, 0, none⟩) 10 cp | 160 => vq = .pointer (some ⟨gb, 8, none⟩) | 161 => vq = .int .i64 (N8 : Int) | 162 => vq = .int .i64 ((N8 : Int) - 1) | 163 => vq = .string ct | 164 => vq = .string s | 165 => vq = .int .i64 (p : Int) | 166 => vq = .slice (some ⟨gb, 0, none⟩) 10 cp | 167 => vq = .pointer (some ⟨gb, 8, none⟩) | 168 => vq = .int .i64 (N8 : Int) | 169 => vq = .int .i64 ((p : Int) + (N8 : Int)) | 170 => vq = .int .i64 ((p : Int) + (N8 : Int) + (N9 : Int)) | 171 => vq = .string dd | 172 => vq = .agg #[.int .i64 x1, .int .i64 x2, .int .i64 x3, .int .i64 x4, .int .i64 x5, .int .i64 x7, .string ct, .string dd] | 173 => vq = .int .i64 ((p : Int) + (N8 : Int) + (N9 : Int)) | 5 => vq = .int .i64 ((p : Int) + (N8 : Int) + (N9 : Int)) | 6 => vq = .int .i64 0 | _ => True) (U := fun o w' => o.dst = none → w'.heap[w.heap.size]? = some (.cells #[.int .i64 x1, .int .i64 x2, .int .i64 x3, .int .i64 x4, .int .i64 x5, .int .i64 x7, .string ct, .string dd] 48 (0, 0))) (w' := w2) (.int .i64 (N8 : Int)) ?_ ?_ ?_ ?_ ?_
                  · (clear hV hI hC; go_simp <;> (first | rfl | simp | (rw [IntKind.wrap_i64]; omega)))
                  · exact hC
                  · exact Or.inl rfl
                  · intro d hd; cases hd; rfl
                  · intro h; cases h
                case o162 =>
                  intro Q a w2 hC hV hI
                  have e161 : a.eval (.tmp 161) = .int .i64 (N8 : Int) := hV 161 (by simp [Op.operands]) (by kernel_rfl)
                  have f161 : a.tmps.getD 161 undef = .int .i64 (N8 : Int) := e161
                  have g161 : a.tmps[161]?.getD undef = .int .i64 (N8 : Int) := by rw [← Array.getD_eq_getD_getElem?]; exact e161
                  refine opU_val (C := fun w' => Below w.heap.size w w' ∧ (w'.cell? ⟨gb, 1, none⟩ = some (.int .i64 x1) ∧ w'.cell? ⟨gb, 2, none⟩ = some (.int .i64 x2) ∧ w'.cell? ⟨gb, 3, none⟩ = some (.int .i64 x3) ∧ w'.cell? ⟨gb, 4, none⟩ = some (.int .i64 x4) ∧ w'.cell? ⟨gb, 5, none⟩ = some (.int .i64 x5) ∧ w'.cell? ⟨gb, 7, none⟩ = some (.int .i64 x7) ∧ w'.cell? ⟨gb, 8, none⟩ = some (.int .i64 (N8 : Int))) ∧ (w'.heap[w.heap.size]? = some (.cells zeroC.cells.toArray 48 (0, 0)) ∨ w'.heap[w.heap.size]? = some (.cells #[.int .i64 x1, .int .i64 x2, .int .i64 x3, .int .i64 x4, .int .i64 x5, .int .i64 x7, .string ct, .string dd] 48 (0, 0)))) (St := fun x y => y.heap[w.heap.size]? = x.heap[w.heap.size]? ∨ y.heap[w.heap.size]? = some (.cells #[.int .i64 x1, .int .i64 x2, .int .i64 x3, .int .i64 x4, .int .i64 x5, .int .i64 x7, .string ct, .string dd] 48 (0, 0))) (V := fun dq vq _ => match dq with | 140 => vq = .slice (some ⟨gb, 0, none⟩) 10 cp | 141 => vq = .pointer (some ⟨gb, 1, none⟩) | 142 => vq = .int .i64 x1 | 143 => vq = .slice (some ⟨gb, 0, none⟩) 10 cp | 144 => vq = .pointer (some ⟨gb, 2, none⟩) | 145 => vq = .int .i64 x2 | 146 => vq = .slice (some ⟨gb, 0, none⟩) 10 cp | 147 => vq = .pointer (some ⟨gb, 3, none⟩) | 148 => vq = .int .i64 x3 | 149 => vq = .slice (some ⟨gb, 0, none⟩) 10 cp | 150 => vq = .pointer (some ⟨gb, 4, none⟩) | 151 => vq = .int .i64 x4 | 152 => vq = .slice (some ⟨gb, 0, none⟩) 10 cp | 153 => vq = .pointer (some ⟨gb, 5, none⟩) | 154 => vq = .int .i64 x5 | 155 => vq = .slice (some ⟨gb, 0, none⟩) 10 cp | 156 => vq = .pointer (some ⟨gb, 7, none⟩) | 157 => vq = .int .i64 x7 | 158 => vq = .string nm | 159 => vq = .slice (some ⟨gb, 0, none⟩) 10 cp | 160 => vq = .pointer (some ⟨gb, 8, none⟩) | 161 => vq = .int .i64 (N8 : Int) | 162 => vq = .int .i64 ((N8 : Int) - 1) | 163 => vq = .string ct | 164 => vq = .string s | 165 => vq = .int .i64 (p : Int) | 166 => vq = .slice (some ⟨gb, 0, none⟩) 10 cp | 167 => vq = .pointer (some ⟨gb, 8, none⟩) | 168 => vq = .int .i64 (N8 : Int) | 169 => vq = .int .i64 ((p : Int) + (N8 : Int)) | 170 => vq = .int .i64 ((p : Int) + (N8 : Int) + (N9 : Int)) | 171 => vq = .string dd | 172 => vq = .agg #[.int .i64 x1, .int .i64 x2, .int .i64 x3, .int .i64 x4, .int .i64 x5, .int .i64 x7, .string ct, .string dd] | 173 => vq = .int .i64 ((p : Int) + (N8 : Int) + (N9 : Int)) | 5 => vq = .int .i64 ((p : Int) + (N8 : Int) + (N9 : Int)) | 6 => vq = .int .i64 0 | _ => True) (U := fun o w' => o.dst = none → w'.heap[w.heap.size]? = some (.cells #[.int .i64 x1, .int .i64 x2, .int .i64 x3, .int .i64 x4, .int .i64 x5, .int .i64 x7, .string ct, .string dd] 48 (0, 0))) (w' := w2) (.int .i64 ((N8 : Int) - 1)) ?_ ?_ ?_ ?_ ?_
                  · (clear hV hI hC; go_simp <;> (first | rfl | simp | (rw [IntKind.wrap_i64]; omega)))
                  · exact hC
                  · exact Or.inl rfl
                  · intro d hd; cases hd; rfl
                  · intro h; cases h
                case o163 =>
                  intro Q a w2 hC hV hI
                  have e158 : a.eval (.tmp 158) = .string nm := hV 158 (by simp [Op.operands]) (by kernel_rfl)
                  have f158 : a.tmps.getD 158 undef = .string nm := e158
                  have g158 : a.tmps[158]?.getD undef = .string nm := by rw [← Array.getD_eq_getD_getElem?]; exact e158
                  have e162 : a.eval (.tmp 162) = .int .i64 ((N8 : Int) - 1) := hV 162 (by simp [Op.operands]) (by kernel_rfl)
                  have f162 : a.tmps.getD 162 undef = .int .i64 ((N8 : Int) - 1) := e162
                  have g162 : a.tmps[162]?.getD undef = .int .i64 ((N8 : Int) - 1) := by rw [← Array.getD_eq_getD_getElem?]; exact e162
                  have q9 := HSc.out w2
                  refine opU_val (C := fun w' => Below w.heap.size w w' ∧ (w'.cell? ⟨gb, 1, none⟩ = some (.int .i64 x1) ∧ w'.cell? ⟨gb, 2, none⟩ = some (.int .i64 x2) ∧ w'.cell? ⟨gb, 3, none⟩ = some (.int .i64 x3) ∧ w'.cell? ⟨gb, 4, none⟩ = some (.int .i64 x4) ∧ w'.cell? ⟨gb, 5, none⟩ = some (.int .i64 x5) ∧ w'.cell? ⟨gb, 7, none⟩ = some (.int .i64 x7) ∧ w'.cell? ⟨gb, 8, none⟩ = some (.int .i64 (N8 : Int))) ∧ (w'.heap[w.heap.size]? = some (.cells zeroC.cells.toArray 48 (0, 0)) ∨ w'.heap[w.heap.size]? = some (.cells #[.int .i64 x1, .int .i64 x2, .int .i64 x3, .int .i64 x4, .int .i64 x5, .int .i64 x7, .string ct, .string dd] 48 (0, 0)))) (St := fun x y => y.heap[w.heap.size]? = x.heap[w.heap.size]? ∨ y.heap[w.heap.size]? = some (.cells #[.int .i64 x1, .int .i64 x2, .int .i64 x3, .int .i64 x4, .int .i64 x5, .int .i64 x7, .string ct, .string dd] 48 (0, 0))) (V := fun dq vq _ => match dq with | 140 => vq = .slice (some ⟨gb, 0, none⟩) 10 cp | 141 => vq = .pointer (some ⟨gb, 1, none⟩) | 142 => vq = .int .i64 x1 | 143 => vq = .slice (some ⟨gb, 0, none⟩) 10 cp | 144 => vq = .pointer (some ⟨gb, 2, none⟩) | 145 => vq = .int .i64 x2 | 146 => vq = .slice (some ⟨gb, 0, none⟩) 10 cp | 147 => vq = .pointer (some ⟨gb, 3, none⟩) | 148 => vq = .int .i64 x3 | 149 => vq = .slice (some ⟨gb, 0, none⟩) 10 cp | 150 => vq = .pointer (some ⟨gb, 4, none⟩) | 151 => vq = .int .i64 x4 | 152 => vq = .slice (some ⟨gb, 0, none⟩) 10 cp | 153 => vq = .pointer (some ⟨gb, 5, none⟩) | 154 => vq = .int .i64 x5 | 155 => vq = .slice (some ⟨gb, 0, none⟩) 10 cp | 156 => vq = .pointer (some ⟨gb, 7, none⟩) | 157 => vq = .int .i64 x7 | 158 => vq = .string nm | 159 => vq = .slice (some ⟨gb, 0, none⟩) 10 cp | 160 => vq = .pointer (some ⟨gb, 8, none⟩) | 161 => vq = .int .i64 (N8 : Int) | 162 => vq = .int .i64 ((N8 : Int) - 1) | 163 => vq = .string ct | 164 => vq = .string s | 165 => vq = .int .i64 (p : Int) | 166 => vq = .slice (some ⟨gb, 0, none⟩) 10 cp | 167 => vq = .pointer (some ⟨gb, 8, none⟩) | 168 => vq = .int .i64 (N8 : Int) | 169 => vq = .int .i64 ((p : Int) + (N8 : Int)) | 170 => vq = .int .i64 ((p : Int) + (N8 : Int) + (N9 : Int)) | 171 => vq = .string dd | 172 => vq = .agg #[.int .i64 x1, .int .i64 x2, .int .i64 x3, .int .i64 x4, .int .i64 x5, .int .i64 x7, .string ct, .string dd] | 173 => vq = .int .i64 ((p : Int) + (N8 : Int) + (N9 : Int)) | 5 => vq = .int .i64 ((p : Int) + (N8 : Int) + (N9 : Int)) | 6 => vq = .int .i64 0 | _ => True) (U := fun o w' => o.dst = none → w'.heap[w.heap.size]? = some (.cells #[.int .i64 x1, .int .i64 x2, .int .i64 x3, .int .i64 x4, .int .i64 x5, .int .i64 x7, .string ct, .string dd] 48 (0, 0))) (w' := w2) (.string ct) ?_ ?_ ?_ ?_ ?_
                  · (clear hV hI hC; go_simp <;> (first | rfl | simp | (rw [IntKind.wrap_i64]; omega)))
                  · exact hC
                  · exact Or.inl rfl
                  · intro d hd; cases hd; rfl
                  · intro h; cases h
                case o164 =>
                  intro Q a w2 hC hV hI
                  have e0 : a.eval (.tmp 0) = .string s := (hI 0 (by simp [Op.operands]) (by kernel_rfl)).trans rfl
                  have f0 : a.tmps.getD 0 undef = .string s := e0
                  have g0 : a.tmps[0]?.getD undef = .string s := by rw [← Array.getD_eq_getD_getElem?]; exact e0
                  refine opU_val (C := fun w' => Below w.heap.size w w' ∧ (w'.cell? ⟨gb, 1, none⟩ = some (.int .i64 x1) ∧ w'.cell? ⟨gb, 2, none⟩ = some (.int .i64 x2) ∧ w'.cell? ⟨gb, 3, none⟩ = some (.int .i64 x3) ∧ w'.cell? ⟨gb, 4, none⟩ = some (.int .i64 x4) ∧ w'.cell? ⟨gb, 5, none⟩ = some (.int .i64 x5) ∧ w'.cell? ⟨gb, 7, none⟩ = some (.int .i64 x7) ∧ w'.cell? ⟨gb, 8, none⟩ = some (.int .i64 (N8 : Int))) ∧ (w'.heap[w.heap.size]? = some (.cells zeroC.cells.toArray 48 (0, 0)) ∨ w'.heap[w.heap.size]? = some (.cells #[.int .i64 x1, .int .i64 x2, .int .i64 x3, .int .i64 x4, .int .i64 x5, .int .i64 x7, .string ct, .string dd] 48 (0, 0)))) (St := fun x y => y.heap[w.heap.size]? = x.heap[w.heap.size]? ∨ y.heap[w.heap.size]? = some (.cells #[.int .i64 x1, .int .i64 x2, .int .i64 x3, .int .i64 x4, .int .i64 x5, .int .i64 x7, .string ct, .string dd] 48 (0, 0))) (V := fun dq vq _ => match dq with | 140 => vq = .slice (some ⟨gb, 0, none⟩) 10 cp | 141 => vq = .pointer (some ⟨gb, 1, none⟩) | 142 => vq = .int .i64 x1 | 143 => vq = .slice (some ⟨gb, 0, none⟩) 10 cp | 144 => vq = .pointer (some ⟨gb, 2, none⟩) | 145 => vq = .int .i64 x2 | 146 => vq = .slice (some ⟨gb, 0, none⟩) 10 cp | 147 => vq = .pointer (some ⟨gb, 3, none⟩) | 148 => vq = .int .i64 x3 | 149 => vq = .slice (some ⟨gb, 0, none⟩) 10 cp | 150 => vq = .pointer (some ⟨gb, 4, none⟩) | 151 => vq = .int .i64 x4 | 152 => vq = .slice (some ⟨gb, 0, none⟩) 10 cp | 153 => vq = .pointer (some ⟨gb, 5, none⟩) | 154 => vq = .int .i64 x5 | 155 => vq = .slice (some ⟨gb, 0, none⟩) 10 cp | 156 => vq = .pointer (some ⟨gb, 7, none⟩) | 157 => vq = .int .i64 x7 | 158 => vq = .string nm | 159 => vq = .slice (some ⟨gb, 0, none⟩) 10 cp | 160 => vq = .pointer (some ⟨gb, 8, none⟩) | 161 => vq = .int .i64 (N8 : Int) | 162 => vq = .int .i64 ((N8 : Int) - 1) | 163 => vq = .string ct | 164 => vq = .string s | 165 => vq = .int .i64 (p : Int) | 166 => vq = .slice (some ⟨gb, 0, none⟩) 10 cp | 167 => vq = .pointer (some ⟨gb, 8, none⟩) | 168 => vq = .int .i64 (N8 : Int) | 169 => vq = .int .i64 ((p : Int) + (N8 : Int)) | 170 => vq = .int .i64 ((p : Int) + (N8 : Int) + (N9 : Int)) | 171 => vq = .string dd | 172 => vq = .agg #[.int .i64 x1, .int .i64 x2, .int .i64 x3, .int .i64 x4, .int .i64 x5, .int .i64 x7, .string ct, .string dd] | 173 => vq = .int .i64 ((p : Int) + (N8 : Int) + (N9 : Int)) | 5 => vq = .int .i64 ((p : Int) + (N8 : Int) + (N9 : Int)) | 6 => vq = .int .i64 0 | _ => True) (U := fun o w' => o.dst = none → w'.heap[w.heap.size]? = some (.cells #[.int .i64 x1, .int .i64 x2, .int .i64 x3, .int .i64 x4, .int .i64 x5, .int .i64 x7, .string ct, .string dd] 48 (0, 0))) (w' := w2) (.string s) ?_ ?_ ?_ ?_ ?_
                  · (clear hV hI hC; go_simp <;> (first | rfl | simp | (rw [IntKind.wrap_i64]; omega)))
                  · exact hC
                  · exact Or.inl rfl
                  · intro d hd; cases hd; rfl
                  · intro h; cases h
                case o165 =>
                  intro Q a w2 hC hV hI
                  have e8 : a.eval (.tmp 8) = .int .i64 (p : Int) := (hI 8 (by simp [Op.operands]) (by kernel_rfl)).trans rfl
                  have f8 : a.tmps.getD 8 undef = .int .i64 (p : Int) := e8
                  have g8 : a.tmps[8]?.getD undef = .int .i64 (p : Int) := by rw [← Array.getD_eq_getD_getElem?]; exact e8
                  refine opU_val (C := fun w' => Below w.heap.size w w' ∧ (w'.cell? ⟨gb, 1, none⟩ = some (.int .i64 x1) ∧ w'.cell? ⟨gb, 2, none⟩ = some (.int .i64 x2) ∧ w'.cell? ⟨gb, 3, none⟩ = some (.int .i64 x3) ∧ w'.cell? ⟨gb, 4, none⟩ = some (.int .i64 x4) ∧ w'.cell? ⟨gb, 5, none⟩ = some (.int .i64 x5) ∧ w'.cell? ⟨gb, 7, none⟩ = some (.int .i64 x7) ∧ w'.cell? ⟨gb, 8, none⟩ = some (.int .i64 (N8 : Int))) ∧ (w'.heap[w.heap.size]? = some (.cells zeroC.cells.toArray 48 (0, 0)) ∨ w'.heap[w.heap.size]? = some (.cells #[.int .i64 x1, .int .i64 x2, .int .i64 x3, .int .i64 x4, .int .i64 x5, .int .i64 x7, .string ct, .string dd] 48 (0, 0)))) (St := fun x y => y.heap[w.heap.size]? = x.heap[w.heap.size]? ∨ y.heap[w.heap.size]? = some (.cells #[.int .i64 x1, .int .i64 x2, .int .i64 x3, .int .i64 x4, .int .i64 x5, .int .i64 x7, .string ct, .string dd] 48 (0, 0))) (V := fun dq vq _ => match dq with | 140 => vq = .slice (some ⟨gb, 0, none⟩) 10 cp | 141 => vq = .pointer (some ⟨gb, 1, none⟩) | 142 => vq = .int .i64 x1 | 143 => vq = .slice (some ⟨gb, 0, none⟩) 10 cp | 144 => vq = .pointer (some ⟨gb, 2, none⟩) | 145 => vq = .int .i64 x2 | 146 => vq = .slice (some ⟨gb, 0, none⟩) 10 cp | 147 => vq = .pointer (some ⟨gb, 3, none⟩) | 148 => vq = .int .i64 x3 | 149 => vq = .slice (some ⟨gb, 0, none⟩) 10 cp | 150 => vq = .pointer (some ⟨gb, 4, none⟩) | 151 => vq = .int .i64 x4 | 152 => vq = .slice (some ⟨gb, 0, none⟩) 10 cp | 153 => vq = .pointer (some ⟨gb, 5, none⟩) | 154 => vq = .int .i64 x5 | 155 => vq = .slice (some ⟨gb, 0, none⟩) 10 cp | 156 => vq = .pointer (some ⟨gb, 7, none⟩) | 157 => vq = .int .i64 x7 | 158 => vq = .string nm | 159 => vq = .slice (some ⟨gb, 0, none⟩) 10 cp | 160 => vq = .pointer (some ⟨gb, 8, none⟩) | 161 => vq = .int .i64 (N8 : Int) | 162 => vq = .int .i64 ((N8 : Int) - 1) | 163 => vq = .string ct | 164 => vq = .string s | 165 => vq = .int .i64 (p : Int) | 166 => vq = .slice (some ⟨gb, 0, none⟩) 10 cp | 167 => vq = .pointer (some ⟨gb, 8, none⟩) | 168 => vq = .int .i64 (N8 : Int) | 169 => vq = .int .i64 ((p : Int) + (N8 : Int)) | 170 => vq = .int .i64 ((p : Int) + (N8 : Int) + (N9 : Int)) | 171 => vq = .string dd | 172 => vq = .agg #[.int .i64 x1, .int .i64 x2, .int .i64 x3, .int .i64 x4, .int .i64 x5, .int .i64 x7, .string ct, .string dd] | 173 => vq = .int .i64 ((p : Int) + (N8 : Int) + (N9 : Int)) | 5 => vq = .int .i64 ((p : Int) + (N8 : Int) + (N9 : Int)) | 6 => vq = .int .i64 0 | _ => True) (U := fun o w' => o.dst = none → w'.heap[w.heap.size]? = some (.cells #[.int .i64 x1, .int .i64 x2, .int .i64 x3, .int .i64 x4, .int .i64 x5, .int .i64 x7, .string ct, .string dd] 48 (0, 0))) (w' := w2) (.int .i64 (p : Int)) ?_ ?_ ?_ ?_ ?_
                  · (clear hV hI hC; go_simp <;> (first | rfl | simp | (rw [IntKind.wrap_i64]; omega)))
                  · exact hC
                  · exact Or.inl rfl
                  · intro d hd; cases hd; rfl
                  · intro h; cases h
                case o166 =>
                  intro Q a w2 hC hV hI
                  have e7 : a.eval (.tmp 7) = .slice (some ⟨gb, 0, none⟩) 10 cp := (hI 7 (by simp [Op.operands]) (by kernel_rfl)).trans rfl
                  have f7 : a.tmps.getD 7 undef = .slice (some ⟨gb, 0, none⟩) 10 cp := e7
                  have g7 : a.tmps[7]?.getD undef = .slice (some ⟨gb, 0, none⟩) 10 cp := by rw [← Array.getD_eq_getD_getElem?]; exact e7
                  refine opU_val (C := fun w' => Below w.heap.size w w' ∧ (w'.cell? ⟨gb, 1, none⟩ = some (.int .i64 x1) ∧ w'.cell? ⟨gb, 2, none⟩ = some (.int .i64 x2) ∧ w'.cell? ⟨gb, 3, none⟩ = some (.int .i64 x3) ∧ w'.cell? ⟨gb, 4, none⟩ = some (.int .i64 x4) ∧ w'.cell? ⟨gb, 5, none⟩ = some (.int .i64 x5) ∧ w'.cell? ⟨gb, 7, none⟩ = some (.int .i64 x7) ∧ w'.cell? ⟨gb, 8, none⟩ = some (.int .i64 (N8 : Int))) ∧ (w'.heap[w.heap.size]? = some (.cells zeroC.cells.toArray 48 (0, 0)) ∨ w'.heap[w.heap.size]? = some (.cells #[.int .i64 x1, .int .i64 x2, .int .i64 x3, .int .i64 x4, .int .i64 x5, .int .i64 x7, .string ct, .string dd] 48 (0, 0)))) (St := fun x y => y.heap[w.heap.size]? = x.heap[w.heap.size]? ∨ y.heap[w.heap.size]? = some (.cells #[.int .i64 x1, .int .i64 x2, .int .i64 x3, .int .i64 x4, .int .i64 x5, .int .i64 x7, .string ct, .string dd] 48 (0, 0))) (V := fun dq vq _ => match dq with | 140 => vq = .slice (some ⟨gb, 0, none⟩) 10 cp | 141 => vq = .pointer (some ⟨gb, 1, none⟩) | 142 => vq = .int .i64 x1 | 143 => vq = .slice (some ⟨gb, 0, none⟩) 10 cp | 144 => vq = .pointer (some ⟨gb, 2, none⟩) | 145 => vq = .int .i64 x2 | 146 => vq = .slice (some ⟨gb, 0, none⟩) 10 cp | 147 => vq = .pointer (some ⟨gb, 3, none⟩) | 148 => vq = .int .i64 x3 | 149 => vq = .slice (some ⟨gb, 0, none⟩) 10 cp | 150 => vq = .pointer (some ⟨gb, 4, none⟩) | 151 => vq = .int .i64 x4 | 152 => vq = .slice (some ⟨gb, 0, none⟩) 10 cp | 153 => vq = .pointer (some ⟨gb, 5, none⟩) | 154 => vq = .int .i64 x5 | 155 => vq = .slice (some ⟨gb, 0, none⟩) 10 cp | 156 => vq = .pointer (some ⟨gb, 7, none⟩) | 157 => vq = .int .i64 x7 | 158 => vq = .string nm | 159 => vq = .slice (some ⟨gb, 0, none⟩) 10 cp | 160 => vq = .pointer (some ⟨gb, 8, none⟩) | 161 => vq = .int .i64 (N8 : Int) | 162 => vq = .int .i64 ((N8 : Int) - 1) | 163 => vq = .string ct | 164 => vq = .string s | 165 => vq = .int .i64 (p : Int) | 166 => vq = .slice (some ⟨gb, 0, none⟩) 10 cp | 167 => vq = .pointer (some ⟨gb, 8, none⟩) | 168 => vq = .int .i64 (N8 : Int) | 169 => vq = .int .i64 ((p : Int) + (N8 : Int)) | 170 => vq = .int .i64 ((p : Int) + (N8 : Int) + (N9 : Int)) | 171 => vq = .string dd | 172 => vq = .agg #[.int .i64 x1, .int .i64 x2, .int .i64 x3, .int .i64 x4, .int .i64 x5, .int .i64 x7, .string ct, .string dd] | 173 => vq = .int .i64 ((p : Int) + (N8 : Int) + (N9 : Int)) | 5 => vq = .int .i64 ((p : Int) + (N8 : Int) + (N9 : Int)) | 6 => vq = .int .i64 0 | _ => True) (U := fun o w' => o.dst = none → w'.heap[w.heap.size]? = some (.cells #[.int .i64 x1, .int .i64 x2, .int .i64 x3, .int .i64 x4, .int .i64 x5, .int .i64 x7, .string ct, .string dd] 48 (0, 0))) (w' := w2) (.slice (some ⟨gb, 0, none⟩) 10 cp) ?_ ?_ ?_ ?_ ?_
                  · (clear hV hI hC; go_simp <;> (first | rfl | simp | (rw [IntKind.wrap_i64]; omega)))
                  · exact hC
                  · exact Or.inl rfl
                  · intro d hd; cases hd; rfl
                  · intro h; cases h
                case o167 =>
                  intro Q a w2 hC hV hI
                  have e166 : a.eval (.tmp 166) = .slice (some ⟨gb, 0, none⟩) 10 cp := hV 166 (by simp [Op.operands]) (by kernel_rfl)
                  have f166 : a.tmps.getD 166 undef = .slice (some ⟨gb, 0, none⟩) 10 cp := e166
                  have g166 : a.tmps[166]?.getD undef = .slice (some ⟨gb, 0, none⟩) 10 cp := by rw [← Array.getD_eq_getD_getElem?]; exact e166
                  refine opU_val (C := fun w' => Below w.heap.size w w' ∧ (w'.cell? ⟨gb, 1, none⟩ = some (.int .i64 x1) ∧ w'.cell? ⟨gb, 2, none⟩ = some (.int .i64 x2) ∧ w'.cell? ⟨gb, 3, none⟩ = some (.int .i64 x3) ∧ w'.cell? ⟨gb, 4, none⟩ = some (.int .i64 x4) ∧ w'.cell? ⟨gb, 5, none⟩ = some (.int .i64 x5) ∧ w'.cell? ⟨gb, 7, none⟩ = some (.int .i64 x7) ∧ w'.cell? ⟨gb, 8, none⟩ = some (.int .i64 (N8 : Int))) ∧ (w'.heap[w.heap.size]? = some (.cells zeroC.cells.toArray 48 (0, 0)) ∨ w'.heap[w.heap.size]? = some (.cells #[.int .i64 x1, .int .i64 x2, .int .i64 x3, .int .i64 x4, .int .i64 x5, .int .i64 x7, .string ct, .string dd] 48 (0, 0)))) (St := fun x y => y.heap[w.heap.size]? = x.heap[w.heap.size]? ∨ y.heap[w.heap.size]? = some (.cells #[.int .i64 x1, .int .i64 x2, .int .i64 x3, .int .i64 x4, .int .i64 x5, .int .i64 x7, .string ct, .string dd] 48 (0, 0))) (V := fun dq vq _ => match dq with | 140 => vq = .slice (some ⟨gb, 0, none⟩) 10 cp | 141 => vq = .pointer (some ⟨gb, 1, none⟩) | 142 => vq = .int .i64 x1 | 143 => vq = .slice (some ⟨gb, 0, none⟩) 10 cp | 144 => vq = .pointer (some ⟨gb, 2, none⟩) | 145 => vq = .int .i64 x2 | 146 => vq = .slice (some ⟨gb, 0, none⟩) 10 cp | 147 => vq = .pointer (some ⟨gb, 3, none⟩) | 148 => vq = .int .i64 x3 | 149 => vq = .slice (some ⟨gb, 0, none⟩) 10 cp | 150 => vq = .pointer (some ⟨gb, 4, none⟩) | 151 => vq = .int .i64 x4 | 152 => vq = .slice (some ⟨gb, 0, none⟩) 10 cp | 153 => vq = .pointer (some ⟨gb, 5, none⟩) | 154 => vq = .int .i64 x5 | 155 => vq = .slice (some ⟨gb, 0, none⟩) 10 cp | 156 => vq = .pointer (some ⟨gb, 7, none⟩) | 157 => vq = .int .i64 x7 | 158 => vq = .string nm | 159 => vq = .slice (some ⟨gb, 0, none⟩) 10 cp | 160 => vq = .pointer (some ⟨gb, 8, none⟩) | 161 => vq = .int .i64 (N8 : Int) | 162 => vq = .int .i64 ((N8 : Int) - 1) | 163 => vq = .string ct | 164 => vq = .string s | 165 => vq = .int .i64 (p : Int) | 166 => vq = .slice (some ⟨gb, 0, none⟩) 10 cp | 167 => vq = .pointer (some ⟨gb, 8, none⟩) | 168 => vq = .int .i64 (N8 : Int) | 169 => vq = .int .i64 ((p : Int) + (N8 : Int)) | 170 => vq = .int .i64 ((p : Int) + (N8 : Int) + (N9 : Int)) | 171 => vq = .string dd | 172 => vq = .agg #[.int .i64 x1, .int .i64 x2, .int .i64 x3, .int .i64 x4, .int .i64 x5, .int .i64 x7, .string ct, .string dd] | 173 => vq = .int .i64 ((p : Int) + (N8 : Int) + (N9 : Int)) | 5 => vq = .int .i64 ((p : Int) + (N8 : Int) + (N9 : Int)) | 6 => vq = .int .i64 0 | _ => True) (U := fun o w' => o.dst = none → w'.heap[w.heap.size]? = some (.cells #[.int .i64 x1, .int .i64 x2, .int .i64 x3, .int .i64 x4, .int .i64 x5, .int .i64 x7, .string ct, .string dd] 48 (0, 0))) (w' := w2) (.pointer (some ⟨gb, 8, none⟩)) ?_ ?_ ?_ ?_ ?_
                  · (clear hV hI hC; go_simp <;> (first | rfl | simp | (rw [IntKind.wrap_i64]; omega)))
                  · exact hC
                  · exact Or.inl rfl
                  · intro d hd; cases hd; rfl
                  · intro h; cases h
                case o168 =>
                  intro Q a w2 hC hV hI
                  have e167 : a.eval (.tmp 167) = .pointer (some ⟨gb, 8, none⟩) := hV 167 (by simp [Op.operands]) (by kernel_rfl)
                  have f167 : a.tmps.getD 167 undef = .pointer (some ⟨gb, 8, none⟩) := e167
                  have g167 : a.tmps[167]?.getD undef = .pointer (some ⟨gb, 8, none⟩) := by rw [← Array.getD_eq_getD_getElem?]; exact e167
                  have hK := KC.out w2 hC.2.1
                  refine opU_val (C := fun w' => Below w.heap.size w w' ∧ (w'.cell? ⟨gb, 1, none⟩ = some (.int .i64 x1) ∧ w'.cell? ⟨gb, 2, none⟩ = some (.int .i64 x2) ∧ w'.cell? ⟨gb, 3, none⟩ = some (.int .i64 x3) ∧ w'.cell? ⟨gb, 4, none⟩ = some (.int .i64 x4) ∧ w'.cell? ⟨gb, 5, none⟩ = some (.int .i64 x5) ∧ w'.cell? ⟨gb, 7, none⟩ = some (.int .i64 x7) ∧ w'.cell? ⟨gb, 8, none⟩ = some (.int .i64 (N8 : Int))) ∧ (w'.heap[w.heap.size]? = some (.cells zeroC.cells.toArray 48 (0, 0)) ∨ w'.heap[w.heap.size]? = some (.cells #[.int .i64 x1, .int .i64 x2, .int .i64 x3, .int .i64 x4, .int .i64 x5, .int .i64 x7, .string ct, .string dd] 48 (0, 0)))) (St := fun x y => y.heap[w.heap.size]? = x.heap[w.heap.size]? ∨ y.heap[w.heap.size]? = some (.cells #[.int .i64 x1, .int .i64 x2, .int .i64 x3, .int .i64 x4, .int .i64 x5, .int .i64 x7, .string ct, .string dd] 48 (0, 0))) (V := fun dq vq _ => match dq with | 140 => vq = .slice (some ⟨gb, 0, none⟩) 10 cp | 141 => vq = .pointer (some ⟨gb, 1, none⟩) | 142 => vq = .int .i64 x1 | 143 => vq = .slice (some ⟨gb, 0, none⟩) 10 cp | 144 => vq = .pointer (some ⟨gb, 2, none⟩) | 145 => vq = .int .i64 x2 | 146 => vq = .slice (some ⟨gb, 0, none⟩) 10 cp | 147 => vq = .pointer (some ⟨gb, 3, none⟩) | 148 => vq = .int .i64 x3 | 149 => vq = .slice (some ⟨gb, 0, none⟩) 10 cp | 150 => vq = .pointer (some ⟨gb, 4, none⟩) | 151 => vq = .int .i64 x4 | 152 => vq = .slice (some ⟨gb, 0, none⟩) 10 cp | 153 => vq = .pointer (some ⟨gb, 5, none⟩) | 154 => vq = .int .i64 x5 | 155 => vq = .slice (some ⟨gb, 0, none⟩) 10 cp | 156 => vq = .pointer (some ⟨gb, 7, none⟩) | 157 => vq = .int .i64 x7 | 158 => vq = .string nm | 159 => vq = .slice (some ⟨gb, 0, none⟩) 10 cp | 160 => vq = .pointer (some ⟨gb, 8, none⟩) | 161 => vq = .int .i64 (N8 : Int) | 162 => vq = .int .i64 ((N8 : Int) - 1) | 163 => vq = .string ct | 164 => vq = .string s | 165 => vq = .int .i64 (p : Int) | 166 => vq = .slice (some ⟨gb, 0, none⟩) 10 cp | 167 => vq = .pointer (some ⟨gb, 8, none⟩) | 168 => vq = .int .i64 (N8 : Int) | 169 => vq = .int .i64 ((p : Int) + (N8 : Int)) | 170 => vq = .int .i64 ((p : Int) + (N8 : Int) + (N9 : Int)) | 171 => vq = .string dd | 172 => vq = .agg #[.int .i64 x1, .int .i64 x2, .int .i64 x3, .int .i64 x4, .int .i64 x5, .int .i64 x7, .string ct, .string dd] | 173 => vq = .int .i64 ((p : Int) + (N8 : Int) + (N9 : Int)) | 5 => vq = .int .i64 ((p : Int) + (N8 : Int) + (N9 : Int)) | 6 => vq = .int .i64 0 | _ => True) (U := fun o w' => o.dst = none → w'.heap[w.heap.size]? = some (.cells #[.int .i64 x1, .int .i64 x2, .int .i64 x3, .int .i64 x4, .int .i64 x5, .int .i64 x7, .string ct, .string dd] 48 (0, 0))) (w' := w2) (.int .i64 (N8 : Int)) ?_ ?_ ?_ ?_ ?_
                  · (clear hV hI hC; go_simp <;> (first | rfl | simp | (rw [IntKind.wrap_i64]; omega)))
                  · exact hC
                  · exact Or.inl rfl
                  · intro d hd; cases hd; rfl
                  · intro h; cases h
                case o169 =>
                  intro Q a w2 hC hV hI
                  have e165 : a.eval (.tmp 165) = .int .i64 (p : Int) := hV 165 (by simp [Op.operands]) (by kernel_rfl)
                  have f165 : a.tmps.getD 165 undef = .int .i64 (p : Int) := e165
                  have g165 : a.tmps[165]?.getD undef = .int .i64 (p : Int) := by rw [← Array.getD_eq_getD_getElem?]; exact e165
                  have e168 : a.eval (.tmp 168) = .int .i64 (N8 : Int) := hV 168 (by simp [Op.operands]) (by kernel_rfl)
                  have f168 : a.tmps.getD 168 undef = .int .i64 (N8 : Int) := e168
                  have g168 : a.tmps[168]?.getD undef = .int .i64 (N8 : Int) := by rw [← Array.getD_eq_getD_getElem?]; exact e168
                  refine opU_val (C := fun w' => Below w.heap.size w w' ∧ (w'.cell? ⟨gb, 1, none⟩ = some (.int .i64 x1) ∧ w'.cell? ⟨gb, 2, none⟩ = some (.int .i64 x2) ∧ w'.cell? ⟨gb, 3, none⟩ = some (.int .i64 x3) ∧ w'.cell? ⟨gb, 4, none⟩ = some (.int .i64 x4) ∧ w'.cell? ⟨gb, 5, none⟩ = some (.int .i64 x5) ∧ w'.cell? ⟨gb, 7, none⟩ = some (.int .i64 x7) ∧ w'.cell? ⟨gb, 8, none⟩ = some (.int .i64 (N8 : Int))) ∧ (w'.heap[w.heap.size]? = some (.cells zeroC.cells.toArray 48 (0, 0)) ∨ w'.heap[w.heap.size]? = some (.cells #[.int .i64 x1, .int .i64 x2, .int .i64 x3, .int .i64 x4, .int .i64 x5, .int .i64 x7, .string ct, .string dd] 48 (0, 0)))) (St := fun x y => y.heap[w.heap.size]? = x.heap[w.heap.size]? ∨ y.heap[w.heap.size]? = some (.cells #[.int .i64 x1, .int .i64 x2, .int .i64 x3, .int .i64 x4, .int .i64 x5, .int .i64 x7, .string ct, .string dd] 48 (0, 0))) (V := fun dq vq _ => match dq with | 140 => vq = .slice (some ⟨gb, 0, none⟩) 10 cp | 141 => vq = .pointer (some ⟨gb, 1, none⟩) | 142 => vq = .int .i64 x1 | 143 => vq = .slice (some ⟨gb, 0, none⟩) 10 cp | 144 => vq = .pointer (some ⟨gb, 2, none⟩) | 145 => vq = .int .i64 x2 | 146 => vq = .slice (some ⟨gb, 0, none⟩) 10 cp | 147 => vq = .pointer (some ⟨gb, 3, none⟩) | 148 => vq = .int .i64 x3 | 149 => vq = .slice (some ⟨gb, 0, none⟩) 10 cp | 150 => vq = .pointer (some ⟨gb, 4, none⟩) | 151 => vq = .int .i64 x4 | 152 => vq = .slice (some ⟨gb, 0, none⟩) 10 cp | 153 => vq = .pointer (some ⟨gb, 5, none⟩) | 154 => vq = .int .i64 x5 | 155 => vq = .slice (some ⟨gb, 0, none⟩) 10 cp | 156 => vq = .pointer (some ⟨gb, 7, none⟩) | 157 => vq = .int .i64 x7 | 158 => vq = .string nm | 159 => vq = .slice (some ⟨gb, 0, none⟩) 10 cp | 160 => vq = .pointer (some ⟨gb, 8, none⟩) | 161 => vq = .int .i64 (N8 : Int) | 162 => vq = .int .i64 ((N8 : Int) - 1) | 163 => vq = .string ct | 164 => vq = .string s | 165 => vq = .int .i64 (p : Int) | 166 => vq = .slice (some ⟨gb, 0, none⟩) 10 cp | 167 => vq = .pointer (some ⟨gb, 8, none⟩) | 168 => vq = .int .i64 (N8 : Int) | 169 => vq = .int .i64 ((p : Int) + (N8 : Int)) | 170 => vq = .int .i64 ((p : Int) + (N8 : Int) + (N9 : Int)) | 171 => vq = .string dd | 172 => vq = .agg #[.int .i64 x1, .int .i64 x2, .int .i64 x3, .int .i64 x4, .int .i64 x5, .int .i64 x7, .string ct, .string dd] | 173 => vq = .int .i64 ((p : Int) + (N8 : Int) + (N9 : Int)) | 5 => vq = .int .i64 ((p : Int) + (N8 : Int) + (N9 : Int)) | 6 => vq = .int .i64 0 | _ => True) (U := fun o w' => o.dst = none → w'.heap[w.heap.size]? = some (.cells #[.int .i64 x1, .int .i64 x2, .int .i64 x3, .int .i64 x4, .int .i64 x5, .int .i64 x7, .string ct, .string dd] 48 (0, 0))) (w' := w2) (.int .i64 ((p : Int) + (N8 : Int))) ?_ ?_ ?_ ?_ ?_
                  · (clear hV hI hC; go_simp <;> (first | rfl | simp | (rw [IntKind.wrap_i64]; omega)))
                  · exact hC
                  · exact Or.inl rfl
                  · intro d hd; cases hd; rfl
                  · intro h; cases h
                case o170 =>
                  intro Q a w2 hC hV hI
                  have e14 : a.eval (.tmp 14) = .int .i64 ((p : Int) + (N8 : Int) + (N9 : Int)) := (hI 14 (by simp [Op.operands]) (by kernel_rfl)).trans rfl
                  have f14 : a.tmps.getD 14 undef = .int .i64 ((p : Int) + (N8 : Int) + (N9 : Int)) := e14
                  have g14 : a.tmps[14]?.getD undef = .int .i64 ((p : Int) + (N8 : Int) + (N9 : Int)) := by rw [← Array.getD_eq_getD_getElem?]; exact e14
                  refine opU_val (C := fun w' => Below w.heap.size w w' ∧ (w'.cell? ⟨gb, 1, none⟩ = some (.int .i64 x1) ∧ w'.cell? ⟨gb, 2, none⟩ = some (.int .i64 x2) ∧ w'.cell? ⟨gb, 3, none⟩ = some (.int .i64 x3) ∧ w'.cell? ⟨gb, 4, none⟩ = some (.int .i64 x4) ∧ w'.cell? ⟨gb, 5, none⟩ = some (.int .i64 x5) ∧ w'.cell? ⟨gb, 7, none⟩ = some (.int .i64 x7) ∧ w'.cell? ⟨gb, 8, none⟩ = some (.int .i64 (N8 : Int))) ∧ (w'.heap[w.heap.size]? = some (.cells zeroC.cells.toArray 48 (0, 0)) ∨ w'.heap[w.heap.size]? = some (.cells #[.int .i64 x1, .int .i64 x2, .int .i64 x3, .int .i64 x4, .int .i64 x5, .int .i64 x7, .string ct, .string dd] 48 (0, 0)))) (St := fun x y => y.heap[w.heap.size]? = x.heap[w.heap.size]? ∨ y.heap[w.heap.size]? = some (.cells #[.int .i64 x1, .int .i64 x2, .int .i64 x3, .int .i64 x4, .int .i64 x5, .int .i64 x7, .string ct, .string dd] 48 (0, 0))) (V := fun dq vq _ => match dq with | 140 => vq = .slice (some ⟨gb, 0, none⟩) 10 cp | 141 => vq = .pointer (some ⟨gb, 1, none⟩) | 142 => vq = .int .i64 x1 | 143 => vq = .slice (some ⟨gb, 0, none⟩) 10 cp | 144 => vq = .pointer (some ⟨gb, 2, none⟩) | 145 => vq = .int .i64 x2 | 146 => vq = .slice (some ⟨gb, 0, none⟩) 10 cp | 147 => vq = .pointer (some ⟨gb, 3, none⟩) | 148 => vq = .int .i64 x3 | 149 => vq = .slice (some ⟨gb, 0, none⟩) 10 cp | 150 => vq = .pointer (some ⟨gb, 4, none⟩) | 151 => vq = .int .i64 x4 | 152 => vq = .slice (some ⟨gb, 0, none⟩) 10 cp | 153 => vq = .pointer (some ⟨gb, 5, none⟩) | 154 => vq = .int .i64 x5 | 155 => vq = .slice (some ⟨gb, 0, none⟩) 10 cp | 156 => vq = .pointer (some ⟨gb, 7, none⟩) | 157 => vq = .int .i64 x7 | 158 => vq = .string nm | 159 => vq = .slice (some ⟨gb, 0, none⟩) 10 cp | 160 => vq = .pointer (some ⟨gb, 8, none⟩) | 161 => vq = .int .i64 (N8 : Int) | 162 => vq = .int .i64 ((N8 : Int) - 1) | 163 => vq = .string ct | 164 => vq = .string s | 165 => vq = .int .i64 (p : Int) | 166 => vq = .slice (some ⟨gb, 0, none⟩) 10 cp | 167 => vq = .pointer (some ⟨gb, 8, none⟩) | 168 => vq = .int .i64 (N8 : Int) | 169 => vq = .int .i64 ((p : Int) + (N8 : Int)) | 170 => vq = .int .i64 ((p : Int) + (N8 : Int) + (N9 : Int)) | 171 => vq = .string dd | 172 => vq = .agg #[.int .i64 x1, .int .i64 x2, .int .i64 x3, .int .i64 x4, .int .i64 x5, .int .i64 x7, .string ct, .string dd] | 173 => vq = .int .i64 ((p : Int) + (N8 : Int) + (N9 : Int)) | 5 => vq = .int .i64 ((p : Int) + (N8 : Int) + (N9 : Int)) | 6 => vq = .int .i64 0 | _ => True) (U := fun o w' => o.dst = none → w'.heap[w.heap.size]? = some (.cells #[.int .i64 x1, .int .i64 x2, .int .i64 x3, .int .i64 x4, .int .i64 x5, .int .i64 x7, .string ct, .string dd] 48 (0, 0))) (w' := w2) (.int .i64 ((p : Int) + (N8 : Int) + (N9 : Int))) ?_ ?_ ?_ ?_ ?_
                  · (clear hV hI hC; go_simp <;> (first | rfl | simp | (rw [IntKind.wrap_i64]; omega)))
                  · exact hC
                  · exact Or.inl rfl
                  · intro d hd; cases hd; rfl
                  · intro h; cases h
                case o171 =>
                  intro Q a w2 hC hV hI
                  have e164 : a.eval (.tmp 164) = .string s := hV 164 (by simp [Op.operands]) (by kernel_rfl)
                  have f164 : a.tmps.getD 164 undef = .string s := e164
                  have g164 : a.tmps[164]?.getD undef = .string s := by rw [← Array.getD_eq_getD_getElem?]; exact e164
                  have e169 : a.eval (.tmp 169) = .int .i64 ((p : Int) + (N8 : Int)) := hV 169 (by simp [Op.operands]) (by kernel_rfl)
                  have f169 : a.tmps.getD 169 undef = .int .i64 ((p : Int) + (N8 : Int)) := e169
                  have g169 : a.tmps[169]?.getD undef = .int .i64 ((p : Int) + (N8 : Int)) := by rw [← Array.getD_eq_getD_getElem?]; exact e169
                  have e170 : a.eval (.tmp 170) = .int .i64 ((p : Int) + (N8 : Int) + (N9 : Int)) := hV 170 (by simp [Op.operands]) (by kernel_rfl)
                  have f170 : a.tmps.getD 170 undef = .int .i64 ((p : Int) + (N8 : Int) + (N9 : Int)) := e170
                  have g170 : a.tmps[170]?.getD undef = .int .i64 ((p : Int) + (N8 : Int) + (N9 : Int)) := by rw [← Array.getD_eq_getD_getElem?]; exact e170
                  have q9 := HSd.out w2
                  refine opU_val (C := fun w' => Below w.heap.size w w' ∧ (w'.cell? ⟨gb, 1, none⟩ = some (.int .i64 x1) ∧ w'.cell? ⟨gb, 2, none⟩ = some (.int .i64 x2) ∧ w'.cell? ⟨gb, 3, none⟩ = some (.int .i64 x3) ∧ w'.cell? ⟨gb, 4, none⟩ = some (.int .i64 x4) ∧ w'.cell? ⟨gb, 5, none⟩ = some (.int .i64 x5) ∧ w'.cell? ⟨gb, 7, none⟩ = some (.int .i64 x7) ∧ w'.cell? ⟨gb, 8, none⟩ = some (.int .i64 (N8 : Int))) ∧ (w'.heap[w.heap.size]? = some (.cells zeroC.cells.toArray 48 (0, 0)) ∨ w'.heap[w.heap.size]? = some (.cells #[.int .i64 x1, .int .i64 x2, .int .i64 x3, .int .i64 x4, .int .i64 x5, .int .i64 x7, .string ct, .string dd] 48 (0, 0)))) (St := fun x y => y.heap[w.heap.size]? = x.heap[w.heap.size]? ∨ y.heap[w.heap.size]? = some (.cells #[.int .i64 x1, .int .i64 x2, .int .i64 x3, .int .i64 x4, .int .i64 x5, .int .i64 x7, .string ct, .string dd] 48 (0, 0))) (V := fun dq vq _ => match dq with | 140 => vq = .slice (some ⟨gb, 0, none⟩) 10 cp | 141 => vq = .pointer (some ⟨gb, 1, none⟩) | 142 => vq = .int .i64 x1 | 143 => vq = .slice (some ⟨gb, 0, none⟩) 10 cp | 144 => vq = .pointer (some ⟨gb, 2, none⟩) | 145 => vq = .int .i64 x2 | 146 => vq = .slice (some ⟨gb, 0, none⟩) 10 cp | 147 => vq = .pointer (some ⟨gb, 3, none⟩) | 148 => vq = .int .i64 x3 | 149 => vq = .slice (some ⟨gb, 0, none⟩) 10 cp | 150 => vq = .pointer (some ⟨gb, 4, none⟩) | 151 => vq = .int .i64 x4 | 152 => vq = .slice (some ⟨gb, 0, none⟩) 10 cp | 153 => vq = .pointer (some ⟨gb, 5, none⟩) | 154 => vq = .int .i64 x5 | 155 => vq = .slice (some ⟨gb, 0, none⟩) 10 cp | 156 => vq = .pointer (some ⟨gb, 7, none⟩) | 157 => vq = .int .i64 x7 | 158 => vq = .string nm | 159 => vq = .slice (some ⟨gb, 0, none⟩) 10 cp | 160 => vq = .pointer (some ⟨gb, 8, none⟩) | 161 => vq = .int .i64 (N8 : Int) | 162 => vq = .int .i64 ((N8 : Int) - 1) | 163 => vq = .string ct | 164 => vq = .string s | 165 => vq = .int .i64 (p : Int) | 166 => vq = .slice (some ⟨gb, 0, none⟩) 10 cp | 167 => vq = .pointer (some ⟨gb, 8, none⟩) | 168 => vq = .int .i64 (N8 : Int) | 169 => vq = .int .i64 ((p : Int) + (N8 : Int)) | 170 => vq = .int .i64 ((p : Int) + (N8 : Int) + (N9 : Int)) | 171 => vq = .string dd | 172 => vq = .agg #[.int .i64 x1, .int .i64 x2, .int .i64 x3, .int .i64 x4, .int .i64 x5, .int .i64 x7, .string ct, .string dd] | 173 => vq = .int .i64 ((p : Int) + (N8 : Int) + (N9 : Int)) | 5 => vq = .int .i64 ((p : Int) + (N8 : Int) + (N9 : Int)) | 6 => vq = .int .i64 0 | _ => True) (U := fun o w' => o.dst = none → w'.heap[w.heap.size]? = some (.cells #[.int .i64 x1, .int .i64 x2, .int .i64 x3, .int .i64 x4, .int .i64 x5, .int .i64 x7, .string ct, .string dd] 48 (0, 0))) (w' := w2) (.string dd) ?_ ?_ ?_ ?_ ?_
                  · (clear hV hI hC; go_simp <;> (first | rfl | simp | (rw [IntKind.wrap_i64]; omega)))
                  · exact hC
                  · exact Or.inl rfl
                  · intro d hd; cases hd; rfl
                  · intro h; cases h
                case o172 =>
                  intro Q a w2 hC hV hI
                  have e142 : a.eval (.tmp 142) = .int .i64 x1 := hV 142 (by simp [Op.operands]) (by kernel_rfl)
                  have f142 : a.tmps.getD 142 undef = .int .i64 x1 := e142
                  have g142 : a.tmps[142]?.getD undef = .int .i64 x1 := by rw [← Array.getD_eq_getD_getElem?]; exact e142
                  have e145 : a.eval (.tmp 145) = .int .i64 x2 := hV 145 (by simp [Op.operands]) (by kernel_rfl)
                  have f145 : a.tmps.getD 145 undef = .int .i64 x2 := e145
                  have g145 : a.tmps[145]?.getD undef = .int .i64 x2 := by rw [← Array.getD_eq_getD_getElem?]; exact e145
                  have e148 : a.eval (.tmp 148) = .int .i64 x3 := hV 148 (by simp [Op.operands]) (by kernel_rfl)
                  have f148 : a.tmps.getD 148 undef = .int .i64 x3 := e148
                  have g148 : a.tmps[148]?.getD undef = .int .i64 x3 := by rw [← Array.getD_eq_getD_getElem?]; exact e148
                  have e151 : a.eval (.tmp 151) = .int .i64 x4 := hV 151 (by simp [Op.operands]) (by kernel_rfl)
                  have f151 : a.tmps.getD 151 undef = .int .i64 x4 := e151
                  have g151 : a.tmps[151]?.getD undef = .int .i64 x4 := by rw [← Array.getD_eq_getD_getElem?]; exact e151
                  have e154 : a.eval (.tmp 154) = .int .i64 x5 := hV 154 (by simp [Op.operands]) (by kernel_rfl)
                  have f154 : a.tmps.getD 154 undef = .int .i64 x5 := e154
                  have g154 : a.tmps[154]?.getD undef = .int .i64 x5 := by rw [← Array.getD_eq_getD_getElem?]; exact e154
                  have e157 : a.eval (.tmp 157) = .int .i64 x7 := hV 157 (by simp [Op.operands]) (by kernel_rfl)
                  have f157 : a.tmps.getD 157 undef = .int .i64 x7 := e157
                  have g157 : a.tmps[157]?.getD undef = .int .i64 x7 := by rw [← Array.getD_eq_getD_getElem?]; exact e157
                  have e163 : a.eval (.tmp 163) = .string ct := hV 163 (by simp [Op.operands]) (by kernel_rfl)
                  have f163 : a.tmps.getD 163 undef = .string ct := e163
                  have g163 : a.tmps[163]?.getD undef = .string ct := by rw [← Array.getD_eq_getD_getElem?]; exact e163
                  have e171 : a.eval (.tmp 171) = .string dd := hV 171 (by simp [Op.operands]) (by kernel_rfl)
                  have f171 : a.tmps.getD 171 undef = .string dd := e171
                  have g171 : a.tmps[171]?.getD undef = .string dd := by rw [← Array.getD_eq_getD_getElem?]; exact e171
                  refine opU_val (C := fun w' => Below w.heap.size w w' ∧ (w'.cell? ⟨gb, 1, none⟩ = some (.int .i64 x1) ∧ w'.cell? ⟨gb, 2, none⟩ = some (.int .i64 x2) ∧ w'.cell? ⟨gb, 3, none⟩ = some (.int .i64 x3) ∧ w'.cell? ⟨gb, 4, none⟩ = some (.int .i64 x4) ∧ w'.cell? ⟨gb, 5, none⟩ = some (.int .i64 x5) ∧ w'.cell? ⟨gb, 7, none⟩ = some (.int .i64 x7) ∧ w'.cell? ⟨gb, 8, none⟩ = some (.int .i64 (N8 : Int))) ∧ (w'.heap[w.heap.size]? = some (.cells zeroC.cells.toArray 48 (0, 0)) ∨ w'.heap[w.heap.size]? = some (.cells #[.int .i64 x1, .int .i64 x2, .int .i64 x3, .int .i64 x4, .int .i64 x5, .int .i64 x7, .string ct, .string dd] 48 (0, 0)))) (St := fun x y => y.heap[w.heap.size]? = x.heap[w.heap.size]? ∨ y.heap[w.heap.size]? = some (.cells #[.int .i64 x1, .int .i64 x2, .int .i64 x3, .int .i64 x4, .int .i64 x5, .int .i64 x7, .string ct, .string dd] 48 (0, 0))) (V := fun dq vq _ => match dq with | 140 => vq = .slice (some ⟨gb, 0, none⟩) 10 cp | 141 => vq = .pointer (some ⟨gb, 1, none⟩) | 142 => vq = .int .i64 x1 | 143 => vq = .slice (some ⟨gb, 0, none⟩) 10 cp | 144 => vq = .pointer (some ⟨gb, 2, none⟩) | 145 => vq = .int .i64 x2 | 146 => vq = .slice (some ⟨gb, 0, none⟩) 10 cp | 147 => vq = .pointer (some ⟨gb, 3, none⟩) | 148 => vq = .int .i64 x3 | 149 => vq = .slice (some ⟨gb, 0, none⟩) 10 cp | 150 => vq = .pointer (some ⟨gb, 4, none⟩) | 151 => vq = .int .i64 x4 | 152 => vq = .slice (some ⟨gb, 0, none⟩) 10 cp | 153 => vq = .pointer (some ⟨gb, 5, none⟩) | 154 => vq = .int .i64 x5 | 155 => vq = .slice (some ⟨gb, 0, none⟩) 10 cp | 156 => vq = .pointer (some ⟨gb, 7, none⟩) | 157 => vq = .int .i64 x7 | 158 => vq = .string nm | 159 => vq = .slice (some ⟨gb, 0, none⟩) 10 cp | 160 => vq = .pointer (some ⟨gb, 8, none⟩) | 161 => vq = .int .i64 (N8 : Int) | 162 => vq = .int .i64 ((N8 : Int) - 1) | 163 => vq = .string ct | 164 => vq = .string s | 165 => vq = .int .i64 (p : Int) | 166 => vq = .slice (some ⟨gb, 0, none⟩) 10 cp | 167 => vq = .pointer (some ⟨gb, 8, none⟩) | 168 => vq = .int .i64 (N8 : Int) | 169 => vq = .int .i64 ((p : Int) + (N8 : Int)) | 170 => vq = .int .i64 ((p : Int) + (N8 : Int) + (N9 : Int)) | 171 => vq = .string dd | 172 => vq = .agg #[.int .i64 x1, .int .i64 x2, .int .i64 x3, .int .i64 x4, .int .i64 x5, .int .i64 x7, .string ct, .string dd] | 173 => vq = .int .i64 ((p : Int) + (N8 : Int) + (N9 : Int)) | 5 => vq = .int .i64 ((p : Int) + (N8 : Int) + (N9 : Int)) | 6 => vq = .int .i64 0 | _ => True) (U := fun o w' => o.dst = none → w'.heap[w.heap.size]? = some (.cells #[.int .i64 x1, .int .i64 x2, .int .i64 x3, .int .i64 x4, .int .i64 x5, .int .i64 x7, .string ct, .string dd] 48 (0, 0))) (w' := w2) (.agg #[.int .i64 x1, .int .i64 x2, .int .i64 x3, .int .i64 x4, .int .i64 x5, .int .i64 x7, .string ct, .string dd]) ?_ ?_ ?_ ?_ ?_
                  · (clear hV hI hC; go_simp <;> (first | rfl | simp | (rw [IntKind.wrap_i64]; omega)))
                  · exact hC
                  · exact Or.inl rfl
                  · intro d hd; cases hd; rfl
                  · intro h; cases h
                case o173 =>
                  intro Q a w2 hC hV hI
                  have e14 : a.eval (.tmp 14) = .int .i64 ((p : Int) + (N8 : Int) + (N9 : Int)) := (hI 14 (by simp [Op.operands]) (by kernel_rfl)).trans rfl
                  have f14 : a.tmps.getD 14 undef = .int .i64 ((p : Int) + (N8 : Int) + (N9 : Int)) := e14
                  have g14 : a.tmps[14]?.getD undef = .int .i64 ((p : Int) + (N8 : Int) + (N9 : Int)) := by rw [← Array.getD_eq_getD_getElem?]; exact e14
                  refine opU_val (C := fun w' => Below w.heap.size w w' ∧ (w'.cell? ⟨gb, 1, none⟩ = some (.int .i64 x1) ∧ w'.cell? ⟨gb, 2, none⟩ = some (.int .i64 x2) ∧ w'.cell? ⟨gb, 3, none⟩ = some (.int .i64 x3) ∧ w'.cell? ⟨gb, 4, none⟩ = some (.int .i64 x4) ∧ w'.cell? ⟨gb, 5, none⟩ = some (.int .i64 x5) ∧ w'.cell? ⟨gb, 7, none⟩ = some (.int .i64 x7) ∧ w'.cell? ⟨gb, 8, none⟩ = some (.int .i64 (N8 : Int))) ∧ (w'.heap[w.heap.size]? = some (.cells zeroC.cells.toArray 48 (0, 0)) ∨ w'.heap[w.heap.size]? = some (.cells #[.int .i64 x1, .int .i64 x2, .int .i64 x3, .int .i64 x4, .int .i64 x5, .int .i64 x7, .string ct, .string dd] 48 (0, 0)))) (St := fun x y => y.heap[w.heap.size]? = x.heap[w.heap.size]? ∨ y.heap[w.heap.size]? = some (.cells #[.int .i64 x1, .int .i64 x2, .int .i64 x3, .int .i64 x4, .int .i64 x5, .int .i64 x7, .string ct, .string dd] 48 (0, 0))) (V := fun dq vq _ => match dq with | 140 => vq = .slice (some ⟨gb, 0, none⟩) 10 cp | 141 => vq = .pointer (some ⟨gb, 1, none⟩) | 142 => vq = .int .i64 x1 | 143 => vq = .slice (some ⟨gb, 0, none⟩) 10 cp | 144 => vq = .pointer (some ⟨gb, 2, none⟩) | 145 => vq = .int .i64 x2 | 146 => vq = .slice (some ⟨gb, 0, none⟩) 10 cp | 147 => vq = .pointer (some ⟨gb, 3, none⟩) | 148 => vq = .int .i64 x3 | 149 => vq = .slice (some ⟨gb, 0, none⟩) 10 cp | 150 => vq = .pointer (some ⟨gb, 4, none⟩) | 151 => vq = .int .i64 x4 | 152 => vq = .slice (some ⟨gb, 0, none⟩) 10 cp | 153 => vq = .pointer (some ⟨gb, 5, none⟩) | 154 => vq = .int .i64 x5 | 155 => vq = .slice (some ⟨gb, 0, none⟩) 10 cp | 156 => vq = .pointer (some ⟨gb, 7, none⟩) | 157 => vq = .int .i64 x7 | 158 => vq = .string nm | 159 => vq = .slice (some ⟨gb, 0, none⟩) 10 cp | 160 => vq = .pointer (some ⟨gb, 8, none⟩) | 161 => vq = .int .i64 (N8 : Int) | 162 => vq = .int .i64 ((N8 : Int) - 1) | 163 => vq = .string ct | 164 => vq = .string s | 165 => vq = .int .i64 (p : Int) | 166 => vq = .slice (some ⟨gb, 0, none⟩) 10 cp | 167 => vq = .pointer (some ⟨gb, 8, none⟩) | 168 => vq = .int .i64 (N8 : Int) | 169 => vq = .int .i64 ((p : Int) + (N8 : Int)) | 170 => vq = .int .i64 ((p : Int) + (N8 : Int) + (N9 : Int)) | 171 => vq = .string dd | 172 => vq = .agg #[.int .i64 x1, .int .i64 x2, .int .i64 x3, .int .i64 x4, .int .i64 x5, .int .i64 x7, .string ct, .string dd] | 173 => vq = .int .i64 ((p : Int) + (N8 : Int) + (N9 : Int)) | 5 => vq = .int .i64 ((p : Int) + (N8 : Int) + (N9 : Int)) | 6 => vq = .int .i64 0 | _ => True) (U := fun o w' => o.dst = none → w'.heap[w.heap.size]? = some (.cells #[.int .i64 x1, .int .i64 x2, .int .i64 x3, .int .i64 x4, .int .i64 x5, .int .i64 x7, .string ct, .string dd] 48 (0, 0))) (w' := w2) (.int .i64 ((p : Int) + (N8 : Int) + (N9 : Int))) ?_ ?_ ?_ ?_ ?_
                  · (clear hV hI hC; go_simp <;> (first | rfl | simp | (rw [IntKind.wrap_i64]; omega)))
                  · exact hC
                  · exact Or.inl rfl
                  · intro d hd; cases hd; rfl
                  · intro h; cases h
                case os34 =>
                  intro Q a w2 hC hV hI
                  have e4 : a.eval (.tmp 4) = .pointer (some ⟨w.heap.size, 0, none⟩) := (hI 4 (by simp [Op.operands]) (by kernel_rfl)).trans rfl
                  have f4 : a.tmps.getD 4 undef = .pointer (some ⟨w.heap.size, 0, none⟩) := e4
                  have g4 : a.tmps[4]?.getD undef = .pointer (some ⟨w.heap.size, 0, none⟩) := by rw [← Array.getD_eq_getD_getElem?]; exact e4
                  have e172 : a.eval (.tmp 172) = .agg #[.int .i64 x1, .int .i64 x2, .int .i64 x3, .int .i64 x4, .int .i64 x5, .int .i64 x7, .string ct, .string dd] := hV 172 (by simp [Op.operands]) (by kernel_rfl)
                  have f172 : a.tmps.getD 172 undef = .agg #[.int .i64 x1, .int .i64 x2, .int .i64 x3, .int .i64 x4, .int .i64 x5, .int .i64 x7, .string ct, .string dd] := e172
                  have g172 : a.tmps[172]?.getD undef = .agg #[.int .i64 x1, .int .i64 x2, .int .i64 x3, .int .i64 x4, .int .i64 x5, .int .i64 x7, .string ct, .string dd] := by rw [← Array.getD_eq_getD_getElem?]; exact e172
                  have hS : ∀ cs : Array Value, cs.size = 8 → w2.heap[w.heap.size]? = some (.cells cs 48 (0, 0)) → _ := fun cs hc hR => run_storeVar_row (P := Tryz.prog) w2 w.heap.size 48 48 cs #[.int .i64 x1, .int .i64 x2, .int .i64 x3, .int .i64 x4, .int .i64 x5, .int .i64 x7, .string ct, .string dd] hR (by rw [Tryz.sizeOC]; rfl) hc (by simp [Value.oneCell'])
                  have hR2 : (w2.setRow w.heap.size #[.int .i64 x1, .int .i64 x2, .int .i64 x3, .int .i64 x4, .int .i64 x5, .int .i64 x7, .string ct, .string dd]).heap[w.heap.size]? = some (.cells #[.int .i64 x1, .int .i64 x2, .int .i64 x3, .int .i64 x4, .int .i64 x5, .int .i64 x7, .string ct, .string dd] 48 (0, 0)) := hC.2.2.elim (fun h => setRow_heap _ _ _ _ _ _ h) (fun h => setRow_heap _ _ _ _ _ _ h)
                  have hcb : (w2.setRow w.heap.size #[.int .i64 x1, .int .i64 x2, .int .i64 x3, .int .i64 x4, .int .i64 x5, .int .i64 x7, .string ct, .string dd]).heap[gb]? = w2.heap[gb]? := setRow_other _ _ _ _ (by omega)
                  have hkb : ∀ m, (w2.setRow w.heap.size #[.int .i64 x1, .int .i64 x2, .int .i64 x3, .int .i64 x4, .int .i64 x5, .int .i64 x7, .string ct, .string dd]).cell? ⟨gb, m, none⟩ = w2.cell? ⟨gb, m, none⟩ := fun m => World.cell?_of_block hcb
                  refine opU_store (C := fun w' => Below w.heap.size w w' ∧ (w'.cell? ⟨gb, 1, none⟩ = some (.int .i64 x1) ∧ w'.cell? ⟨gb, 2, none⟩ = some (.int .i64 x2) ∧ w'.cell? ⟨gb, 3, none⟩ = some (.int .i64 x3) ∧ w'.cell? ⟨gb, 4, none⟩ = some (.int .i64 x4) ∧ w'.cell? ⟨gb, 5, none⟩ = some (.int .i64 x5) ∧ w'.cell? ⟨gb, 7, none⟩ = some (.int .i64 x7) ∧ w'.cell? ⟨gb, 8, none⟩ = some (.int .i64 (N8 : Int))) ∧ (w'.heap[w.heap.size]? = some (.cells zeroC.cells.toArray 48 (0, 0)) ∨ w'.heap[w.heap.size]? = some (.cells #[.int .i64 x1, .int .i64 x2, .int .i64 x3, .int .i64 x4, .int .i64 x5, .int .i64 x7, .string ct, .string dd] 48 (0, 0)))) (St := fun x y => y.heap[w.heap.size]? = x.heap[w.heap.size]? ∨ y.heap[w.heap.size]? = some (.cells #[.int .i64 x1, .int .i64 x2, .int .i64 x3, .int .i64 x4, .int .i64 x5, .int .i64 x7, .string ct, .string dd] 48 (0, 0))) (V := fun dq vq _ => match dq with | 140 => vq = .slice (some ⟨gb, 0, none⟩) 10 cp | 141 => vq = .pointer (some ⟨gb, 1, none⟩) | 142 => vq = .int .i64 x1 | 143 => vq = .slice (some ⟨gb, 0, none⟩) 10 cp | 144 => vq = .pointer (some ⟨gb, 2, none⟩) | 145 => vq = .int .i64 x2 | 146 => vq = .slice (some ⟨gb, 0, none⟩) 10 cp | 147 => vq = .pointer (some ⟨gb, 3, none⟩) | 148 => vq = .int .i64 x3 | 149 => vq = .slice (some ⟨gb, 0, none⟩) 10 cp | 150 => vq = .pointer (some ⟨gb, 4, none⟩) | 151 => vq = .int .i64 x4 | 152 => vq = .slice (some ⟨gb, 0, none⟩) 10 cp | 153 => vq = .pointer (some ⟨gb, 5, none⟩) | 154 => vq = .int .i64 x5 | 155 => vq = .slice (some ⟨gb, 0, none⟩) 10 cp | 156 => vq = .pointer (some ⟨gb, 7, none⟩) | 157 => vq = .int .i64 x7 | 158 => vq = .string nm | 159 => vq = .slice (some ⟨gb, 0, none⟩) 10 cp | 160 => vq = .pointer (some ⟨gb, 8, none⟩) | 161 => vq = .int .i64 (N8 : Int) | 162 => vq = .int .i64 ((N8 : Int) - 1) | 163 => vq = .string ct | 164 => vq = .string s | 165 => vq = .int .i64 (p : Int) | 166 => vq = .slice (some ⟨gb, 0, none⟩) 10 cp | 167 => vq = .pointer (some ⟨gb, 8, none⟩) | 168 => vq = .int .i64 (N8 : Int) | 169 => vq = .int .i64 ((p : Int) + (N8 : Int)) | 170 => vq = .int .i64 ((p : Int) + (N8 : Int) + (N9 : Int)) | 171 => vq = .string dd | 172 => vq = .agg #[.int .i64 x1, .int .i64 x2, .int .i64 x3, .int .i64 x4, .int .i64 x5, .int .i64 x7, .string ct, .string dd] | 173 => vq = .int .i64 ((p : Int) + (N8 : Int) + (N9 : Int)) | 5 => vq = .int .i64 ((p : Int) + (N8 : Int) + (N9 : Int)) | 6 => vq = .int .i64 0 | _ => True) (U := fun o w' => o.dst = none → w'.heap[w.heap.size]? = some (.cells #[.int .i64 x1, .int .i64 x2, .int .i64 x3, .int .i64 x4, .int .i64 x5, .int .i64 x7, .string ct, .string dd] 48 (0, 0))) 48 _ _ rfl rfl ⟨w.heap.size, 0, none⟩ e4 e172 (hC.2.2.elim (fun h => hS _ rfl h) (fun h => hS _ rfl h)) ?_ ?_ ?_
                  · exact ⟨hC.1.trans (below_setK (Nat.le_refl _) _), ⟨(hkb 1).trans hC.2.1.1, (hkb 2).trans hC.2.1.2.1, (hkb 3).trans hC.2.1.2.2.1, (hkb 4).trans hC.2.1.2.2.2.1, (hkb 5).trans hC.2.1.2.2.2.2.1, (hkb 7).trans hC.2.1.2.2.2.2.2.1, (hkb 8).trans hC.2.1.2.2.2.2.2.2⟩, Or.inr hR2⟩
                  · exact Or.inr hR2
                  · intro _; exact hR2
                case o5 =>
                  intro Q a w2 hC hV hI
                  have e173 : a.eval (.tmp 173) = .int .i64 ((p : Int) + (N8 : Int) + (N9 : Int)) := hV 173 (by simp [Op.operands]) (by kernel_rfl)
                  have f173 : a.tmps.getD 173 undef = .int .i64 ((p : Int) + (N8 : Int) + (N9 : Int)) := e173
                  have g173 : a.tmps[173]?.getD undef = .int .i64 ((p : Int) + (N8 : Int) + (N9 : Int)) := by rw [← Array.getD_eq_getD_getElem?]; exact e173
                  refine opU_val (C := fun w' => Below w.heap.size w w' ∧ (w'.cell? ⟨gb, 1, none⟩ = some (.int .i64 x1) ∧ w'.cell? ⟨gb, 2, none⟩ = some (.int .i64 x2) ∧ w'.cell? ⟨gb, 3, none⟩ = some (.int .i64 x3) ∧ w'.cell? ⟨gb, 4, none⟩ = some (.int .i64 x4) ∧ w'.cell? ⟨gb, 5, none⟩ = some (.int .i64 x5) ∧ w'.cell? ⟨gb, 7, none⟩ = some (.int .i64 x7) ∧ w'.cell? ⟨gb, 8, none⟩ = some (.int .i64 (N8 : Int))) ∧ (w'.heap[w.heap.size]? = some (.cells zeroC.cells.toArray 48 (0, 0)) ∨ w'.heap[w.heap.size]? = some (.cells #[.int .i64 x1, .int .i64 x2, .int .i64 x3, .int .i64 x4, .int .i64 x5, .int .i64 x7, .string ct, .string dd] 48 (0, 0)))) (St := fun x y => y.heap[w.heap.size]? = x.heap[w.heap.size]? ∨ y.heap[w.heap.size]? = some (.cells #[.int .i64 x1, .int .i64 x2, .int .i64 x3, .int .i64 x4, .int .i64 x5, .int .i64 x7, .string ct, .string dd] 48 (0, 0))) (V := fun dq vq _ => match dq with | 140 => vq = .slice (some ⟨gb, 0, none⟩) 10 cp | 141 => vq = .pointer (some ⟨gb, 1, none⟩) | 142 => vq = .int .i64 x1 | 143 => vq = .slice (some ⟨gb, 0, none⟩) 10 cp | 144 => vq = .pointer (some ⟨gb, 2, none⟩) | 145 => vq = .int .i64 x2 | 146 => vq = .slice (some ⟨gb, 0, none⟩) 10 cp | 147 => vq = .pointer (some ⟨gb, 3, none⟩) | 148 => vq = .int .i64 x3 | 149 => vq = .slice (some ⟨gb, 0, none⟩) 10 cp | 150 => vq = .pointer (some ⟨gb, 4, none⟩) | 151 => vq = .int .i64 x4 | 152 => vq = .slice (some ⟨gb, 0, none⟩) 10 cp | 153 => vq = .pointer (some ⟨gb, 5, none⟩) | 154 => vq = .int .i64 x5 | 155 => vq = .slice (some ⟨gb, 0, none⟩) 10 cp | 156 => vq = .pointer (some ⟨gb, 7, none⟩) | 157 => vq = .int .i64 x7 | 158 => vq = .string nm | 159 => vq = .slice (some ⟨gb, 0, none⟩) 10 cp | 160 => vq = .pointer (some ⟨gb, 8, none⟩) | 161 => vq = .int .i64 (N8 : Int) | 162 => vq = .int .i64 ((N8 : Int) - 1) | 163 => vq = .string ct | 164 => vq = .string s | 165 => vq = .int .i64 (p : Int) | 166 => vq = .slice (some ⟨gb, 0, none⟩) 10 cp | 167 => vq = .pointer (some ⟨gb, 8, none⟩) | 168 => vq = .int .i64 (N8 : Int) | 169 => vq = .int .i64 ((p : Int) + (N8 : Int)) | 170 => vq = .int .i64 ((p : Int) + (N8 : Int) + (N9 : Int)) | 171 => vq = .string dd | 172 => vq = .agg #[.int .i64 x1, .int .i64 x2, .int .i64 x3, .int .i64 x4, .int .i64 x5, .int .i64 x7, .string ct, .string dd] | 173 => vq = .int .i64 ((p : Int) + (N8 : Int) + (N9 : Int)) | 5 => vq = .int .i64 ((p : Int) + (N8 : Int) + (N9 : Int)) | 6 => vq = .int .i64 0 | _ => True) (U := fun o w' => o.dst = none → w'.heap[w.heap.size]? = some (.cells #[.int .i64 x1, .int .i64 x2, .int .i64 x3, .int .i64 x4, .int .i64 x5, .int .i64 x7, .string ct, .string dd] 48 (0, 0))) (w' := w2) (.int .i64 ((p : Int) + (N8 : Int) + (N9 : Int))) ?_ ?_ ?_ ?_ ?_
                  · (clear hV hI hC; go_simp <;> (first | rfl | simp | (rw [IntKind.wrap_i64]; omega)))
                  · exact hC
                  · exact Or.inl rfl
                  · intro d hd; cases hd; rfl
                  · intro h; cases h
                case o6 =>
                  intro Q a w2 hC hV hI
                  refine opU_val (C := fun w' => Below w.heap.size w w' ∧ (w'.cell? ⟨gb, 1, none⟩ = some (.int .i64 x1) ∧ w'.cell? ⟨gb, 2, none⟩ = some (.int .i64 x2) ∧ w'.cell? ⟨gb, 3, none⟩ = some (.int .i64 x3) ∧ w'.cell? ⟨gb, 4, none⟩ = some (.int .i64 x4) ∧ w'.cell? ⟨gb, 5, none⟩ = some (.int .i64 x5) ∧ w'.cell? ⟨gb, 7, none⟩ = some (.int .i64 x7) ∧ w'.cell? ⟨gb, 8, none⟩ = some (.int .i64 (N8 : Int))) ∧ (w'.heap[w.heap.size]? = some (.cells zeroC.cells.toArray 48 (0, 0)) ∨ w'.heap[w.heap.size]? = some (.cells #[.int .i64 x1, .int .i64 x2, .int .i64 x3, .int .i64 x4, .int .i64 x5, .int .i64 x7, .string ct, .string dd] 48 (0, 0)))) (St := fun x y => y.heap[w.heap.size]? = x.heap[w.heap.size]? ∨ y.heap[w.heap.size]? = some (.cells #[.int .i64 x1, .int .i64 x2, .int .i64 x3, .int .i64 x4, .int .i64 x5, .int .i64 x7, .string ct, .string dd] 48 (0, 0))) (V := fun dq vq _ => match dq with | 140 => vq = .slice (some ⟨gb, 0, none⟩) 10 cp | 141 => vq = .pointer (some ⟨gb, 1, none⟩) | 142 => vq = .int .i64 x1 | 143 => vq = .slice (some ⟨gb, 0, none⟩) 10 cp | 144 => vq = .pointer (some ⟨gb, 2, none⟩) | 145 => vq = .int .i64 x2 | 146 => vq = .slice (some ⟨gb, 0, none⟩) 10 cp | 147 => vq = .pointer (some ⟨gb, 3, none⟩) | 148 => vq = .int .i64 x3 | 149 => vq = .slice (some ⟨gb, 0, none⟩) 10 cp | 150 => vq = .pointer (some ⟨gb, 4, none⟩) | 151 => vq = .int .i64 x4 | 152 => vq = .slice (some ⟨gb, 0, none⟩) 10 cp | 153 => vq = .pointer (some ⟨gb, 5, none⟩) | 154 => vq = .int .i64 x5 | 155 => vq = .slice (some ⟨gb, 0, none⟩) 10 cp | 156 => vq = .pointer (some ⟨gb, 7, none⟩) | 157 => vq = .int .i64 x7 | 158 => vq = .string nm | 159 => vq = .slice (some ⟨gb, 0, none⟩) 10 cp | 160 => vq = .pointer (some ⟨gb, 8, none⟩) | 161 => vq = .int .i64 (N8 : Int) | 162 => vq = .int .i64 ((N8 : Int) - 1) | 163 => vq = .string ct | 164 => vq = .string s | 165 => vq = .int .i64 (p : Int) | 166 => vq = .slice (some ⟨gb, 0, none⟩) 10 cp | 167 => vq = .pointer (some ⟨gb, 8, none⟩) | 168 => vq = .int .i64 (N8 : Int) | 169 => vq = .int .i64 ((p : Int) + (N8 : Int)) | 170 => vq = .int .i64 ((p : Int) + (N8 : Int) + (N9 : Int)) | 171 => vq = .string dd | 172 => vq = .agg #[.int .i64 x1, .int .i64 x2, .int .i64 x3, .int .i64 x4, .int .i64 x5, .int .i64 x7, .string ct, .string dd] | 173 => vq = .int .i64 ((p : Int) + (N8 : Int) + (N9 : Int)) | 5 => vq = .int .i64 ((p : Int) + (N8 : Int) + (N9 : Int)) | 6 => vq = .int .i64 0 | _ => True) (U := fun o w' => o.dst = none → w'.heap[w.heap.size]? = some (.cells #[.int .i64 x1, .int .i64 x2, .int .i64 x3, .int .i64 x4, .int .i64 x5, .int .i64 x7, .string ct, .string dd] 48 (0, 0))) (w' := w2) (.int .i64 0) ?_ ?_ ?_ ?_ ?_
                  · (clear hV hI hC; go_simp <;> (first | rfl | simp | (rw [IntKind.wrap_i64]; omega)))
                  · exact hC
                  · exact Or.inl rfl
                  · intro d hd; cases hd; rfl
                  · intro h; cases h
              case hend =>
                intro f w9 hC hall huall
                simp only [List.forall_mem_cons] at hall
                obtain ⟨h140, h141, h142, h143, h144, h145, h146, h147, h148, h149, h150, h151, h152, h153, h154, h155, h156, h157, h158, h159, h160, h161, h162, h163, h164, h165, h166, h167, h168, h169, h170, h171, h172, h173, _, h5, h6, _⟩ := hall
                simp only [List.forall_mem_cons] at huall
                obtain ⟨_, _, _, _, _, _, _, _, _, _, _, _, _, _, _, _, _, _, _, _, _, _, _, _, _, _, _, _, _, _, _, _, _, _, hus, _, _, _⟩ := huall
                replace h140 : f 140 = .slice (some ⟨gb, 0, none⟩) 10 cp := h140 140 rfl
                replace h141 : f 141 = .pointer (some ⟨gb, 1, none⟩) := h141 141 rfl
                replace h142 : f 142 = .int .i64 x1 := h142 142 rfl
                replace h143 : f 143 = .slice (some ⟨gb, 0, none⟩) 10 cp := h143 143 rfl
                replace h144 : f 144 = .pointer (some ⟨gb, 2, none⟩) := h144 144 rfl
                replace h145 : f 145 = .int .i64 x2 := h145 145 rfl
                replace h146 : f 146 = .slice (some ⟨gb, 0, none⟩) 10 cp := h146 146 rfl
                replace h147 : f 147 = .pointer (some ⟨gb, 3, none⟩) := h147 147 rfl
                replace h148 : f 148 = .int .i64 x3 := h148 148 rfl
                replace h149 : f 149 = .slice (some ⟨gb, 0, none⟩) 10 cp := h149 149 rfl
                replace h150 : f 150 = .pointer (some ⟨gb, 4, none⟩) := h150 150 rfl
                replace h151 : f 151 = .int .i64 x4 := h151 151 rfl
                replace h152 : f 152 = .slice (some ⟨gb, 0, none⟩) 10 cp := h152 152 rfl
                replace h153 : f 153 = .pointer (some ⟨gb, 5, none⟩) := h153 153 rfl
                replace h154 : f 154 = .int .i64 x5 := h154 154 rfl
                replace h155 : f 155 = .slice (some ⟨gb, 0, none⟩) 10 cp := h155 155 rfl
                replace h156 : f 156 = .pointer (some ⟨gb, 7, none⟩) := h156 156 rfl
                replace h157 : f 157 = .int .i64 x7 := h157 157 rfl
                replace h158 : f 158 = .string nm := h158 158 rfl
                replace h159 : f 159 = .slice (some ⟨gb, 0, none⟩) 10 cp := h159 159 rfl
                replace h160 : f 160 = .pointer (some ⟨gb, 8, none⟩) := h160 160 rfl
                replace h161 : f 161 = .int .i64 (N8 : Int) := h161 161 rfl
                replace h162 : f 162 = .int .i64 ((N8 : Int) - 1) := h162 162 rfl
                replace h163 : f 163 = .string ct := h163 163 rfl
                replace h164 : f 164 = .string s := h164 164 rfl
                replace h165 : f 165 = .int .i64 (p : Int) := h165 165 rfl
                replace h166 : f 166 = .slice (some ⟨gb, 0, none⟩) 10 cp := h166 166 rfl
                replace h167 : f 167 = .pointer (some ⟨gb, 8, none⟩) := h167 167 rfl
                replace h168 : f 168 = .int .i64 (N8 : Int) := h168 168 rfl
                replace h169 : f 169 = .int .i64 ((p : Int) + (N8 : Int)) := h169 169 rfl
                replace h170 : f 170 = .int .i64 ((p : Int) + (N8 : Int) + (N9 : Int)) := h170 170 rfl
                replace h171 : f 171 = .string dd := h171 171 rfl
                replace h172 : f 172 = .agg #[.int .i64 x1, .int .i64 x2, .int .i64 x3, .int .i64 x4, .int .i64 x5, .int .i64 x7, .string ct, .string dd] := h172 172 rfl
                replace h173 : f 173 = .int .i64 ((p : Int) + (N8 : Int) + (N9 : Int)) := h173 173 rfl
                replace h5 : f 5 = .int .i64 ((p : Int) + (N8 : Int) + (N9 : Int)) := h5 5 rfl
                replace h6 : f 6 = .int .i64 0 := h6 6 rfl
                simp only [putAll, Act.put, List.setIfInBounds_toArray, List.set_cons_succ, List.set_cons_zero, h140, h141, h142, h143, h144, h145, h146, h147, h148, h149, h150, h151, h152, h153, h154, h155, h156, h157, h158, h159, h160, h161, h162, h163, h164, h165, h166, h167, h168, h169, h170, h171, h172, h173, h5, h6]
                clear h140 h141 h142 h143 h144 h145 h146 h147 h148 h149 h150 h151 h152 h153 h154 h155 h156 h157 h158 h159 h160 h161 h162 h163 h164 h165 h166 h167 h168 h169 h170 h171 h172 h173 h5 h6
                have R9 : CardO w9 w.heap.size ⟨x1, x2, x3, x4, x5, x7, ct, dd⟩ := hus trivial
                have B9 := hC.1
                clear KC hC hus
                go_wp2_with fail
                refine bodyPost_ret (res_OC3 rfl _ rfl R9) rfl ?_
                exact ⟨by rw [HFv.out]; rfl, B9⟩
            · have qn : (((cutv nm).size : Int) != (N8 : Int) - 1) = true := by simp [hqn]
              have HF : Hid (cdV s j = badV j 4) := Lib.hid (HM3.out (.inr hqn))
              clear HM3 HG3 HNE hqn
              go_quiet ((go_at_call 68; refine Calls.quiet_of_same ((HCut.out _).mono (fun e w' h => ⟨h.1, h.2.symm⟩))))
              obtain ⟨wz, hwq⟩ : ∃ y, y = wq.drewN nq := ⟨_, rfl⟩
              replace R : Hid (CardO wz w.heap.size zeroC) := Lib.hid (by rw [hwq]; exact R.out)
              replace B : Hid (Below w.heap.size w wz) := Lib.hid (by rw [hwq]; exact ⟨B.out.os, B.out.tape, B.out.output, B.out.size, B.out.block⟩)
              rw [← hwq]
              clear hwq n0 n1 n2 n3 n4 n5 n6 n7 n8 n9
              obtain ⟨d0, d1, d2, d3, d4, d5, d6, d7⟩ := (R.out).at.zero
              simp only [zeroC] at d0 d1 d2 d3 d4 d5 d6 d7
              have f0 := (R.out).fz 0
              have f1 := (R.out).fz 1
              have f2 := (R.out).fz 2
              have f3 := (R.out).fz 3
              have f4 := (R.out).fz 4
              have f5 := (R.out).fz 5
              have f6 := (R.out).fz 6
              have f7 := (R.out).fz 7
              have R9 := (R.out).put zeroC
              have B9 := below_putOC (g := w.heap.size) (B.out) (Nat.le_refl _) zeroC
              simp only [putOC, zeroC] at R9 B9
              go_wp2_with fail
              refine bodyPost_ret (res_OC3 rfl _ rfl R9) rfl ?_
              exact ⟨by rw [HF.out]; rfl, B9⟩

          · have q0 : (x0 != 0) = false := by simpa using hz0
            have q6 : (x6 != 0) = true := by simpa using hz6
            have HF := Lib.hid (HZ.out (.inr hz6))
            clear HS HM HG HZ

            obtain ⟨d0, d1, d2, d3, d4, d5, d6, d7⟩ := (R.out).at.zero
            simp only [zeroC] at d0 d1 d2 d3 d4 d5 d6 d7
            have f0 := (R.out).fz 0
            have f1 := (R.out).fz 1
            have f2 := (R.out).fz 2
            have f3 := (R.out).fz 3
            have f4 := (R.out).fz 4
            have f5 := (R.out).fz 5
            have f6 := (R.out).fz 6
            have f7 := (R.out).fz 7
            have R9 := (R.out).put zeroC
            have B9 := below_putOC (g := w.heap.size) (B.out) (Nat.le_refl _) zeroC
            simp only [putOC, zeroC] at R9 B9
            go_wp2_with fail
            refine bodyPost_ret (res_OC3 rfl _ rfl R9) rfl ?_
            exact ⟨by rw [HF.out]; rfl, B9⟩
        · have q0 : (x0 != 0) = true := by simpa using hz0
          have HF := Lib.hid (HZ.out (.inl hz0))
          clear HS HM HG HZ
          obtain ⟨d0, d1, d2, d3, d4, d5, d6, d7⟩ := (R.out).at.zero
          simp only [zeroC] at d0 d1 d2 d3 d4 d5 d6 d7
          have f0 := (R.out).fz 0
          have f1 := (R.out).fz 1
          have f2 := (R.out).fz 2
          have f3 := (R.out).fz 3
          have f4 := (R.out).fz 4
          have f5 := (R.out).fz 5
          have f6 := (R.out).fz 6
          have f7 := (R.out).fz 7
          have R9 := (R.out).put zeroC
          have B9 := below_putOC (g := w.heap.size) (B.out) (Nat.le_refl _) zeroC
          simp only [putOC, zeroC] at R9 B9
          go_wp2_with fail
          refine bodyPost_ret (res_OC3 rfl _ rfl R9) rfl ?_
          exact ⟨by rw [HF.out]; rfl, B9⟩
  · have q := mg_ne hm
    have HF : Hid (cdV s j = badV j 4) := Lib.hid (cdV_bad (cd_magic hj hm))
    have hS6 := HS6.out
    generalize cdV s j = r at HF
    generalize s.extract j (j + 6) = mg at hS6 q
    clear hm HS6
    simp only [zeroC, Card.cells] at R B
    go_enter Tryz.func36, Tryz.ntmps36
    obtain ⟨d0, d1, d2, d3, d4, d5, d6, d7⟩ := (show CardO _ w.heap.size zeroC from R.out).at.zero
    simp only [zeroC] at d0 d1 d2 d3 d4 d5 d6 d7
    have f0 := (show CardO _ w.heap.size zeroC from R.out).fz 0
    have f1 := (show CardO _ w.heap.size zeroC from R.out).fz 1
    have f2 := (show CardO _ w.heap.size zeroC from R.out).fz 2
    have f3 := (show CardO _ w.heap.size zeroC from R.out).fz 3
    have f4 := (show CardO _ w.heap.size zeroC from R.out).fz 4
    have f5 := (show CardO _ w.heap.size zeroC from R.out).fz 5
    have f6 := (show CardO _ w.heap.size zeroC from R.out).fz 6
    have f7 := (show CardO _ w.heap.size zeroC from R.out).fz 7
    go_wp2_with fail
    refine bodyPost_ret (res_OC3 rfl _ rfl R.out) rfl ?_
    exact ⟨by rw [HF.out]; rfl, B.out⟩
end Go.Proofs.YtcnmbolmgifgfabGreatDoor

/- Contract of impl.GetCard: a card read at a place, with its code. -/
namespace Go.Proofs.YtcnmbolmgifgfabGreatDoor
open Go.ChangeShapes Go.WideShapes Go.ChangeAt Go.RowKit Go.Deep

theorem readCard_any (s : ByteArray) (i : Int) (w : World) (hs : s.size ≤ 1048576) (hi : i ≤ 9223372036854775807) :
    Calls Tryz.prog 112 #[.string s, .int .i64 i] w fun e w' => e = rdE s i ∧ Below w.heap.size w w' := by
  by_cases h : i < 0 ∨ (s.size : Int) < i + 76
  · exact readCard_short s i w hs h hi
  · obtain ⟨j, rfl⟩ : ∃ j : Nat, i = j := ⟨i.toNat, by omega⟩
    exact readCard_long s j w hs (by omega)
theorem four (w : World) (o0 o1 o2 o3 : Obj) : (((((w.alloc o0).alloc o1).alloc o2).alloc o3).heap[w.heap.size]? = some o0) ∧ (((((w.alloc o0).alloc o1).alloc o2).alloc o3).heap[w.heap.size + 1]? = some o1) ∧ (((((w.alloc o0).alloc o1).alloc o2).alloc o3).heap[w.heap.size + 1 + 1]? = some o2) ∧ (((((w.alloc o0).alloc o1).alloc o2).alloc o3).heap[w.heap.size + 1 + 1 + 1]? = some o3) ∧ Below w.heap.size w ((((w.alloc o0).alloc o1).alloc o2).alloc o3) ∧ ((((w.alloc o0).alloc o1).alloc o2).alloc o3).heap.size = w.heap.size + 4 := by
  refine ⟨?_, ?_, ?_, ?_, ?_, by simp⟩
  · exact ((((Below.refl (w.alloc o0).heap.size (w.alloc o0)).alloc (Nat.le_refl _) o1).alloc (by simp) o2).alloc (by first | (simp; done) | (simp; omega)) o3).block w.heap.size (by simp) |>.trans (heap_newK _ _ _ rfl)
  · exact (((Below.refl ((w.alloc o0).alloc o1).heap.size ((w.alloc o0).alloc o1)).alloc (Nat.le_refl _) o2).alloc (by simp) o3).block (w.heap.size + 1) (by simp) |>.trans (heap_newK _ _ _ (by simp))
  · exact ((Below.refl (((w.alloc o0).alloc o1).alloc o2).heap.size (((w.alloc o0).alloc o1).alloc o2)).alloc (Nat.le_refl _) o3).block (w.heap.size + 1 + 1) (by simp) |>.trans (heap_newK _ _ _ (by simp))
  · exact heap_newK _ _ _ (by simp)
  · exact ((((Below.refl _ _).alloc (Nat.le_refl _) _).alloc (by simp) _).alloc (by simp; omega) _).alloc (by simp; omega) _
theorem res_get {tmps : Array Value} {w : World} {gk gn gc : Nat} {x : Card} {n c : Int} (h4 : tmps.getD 4 undef = .pointer (some ⟨gk, 0, none⟩)) (h5 : tmps.getD 5 undef = .pointer (some ⟨gn, 0, none⟩)) (h6 : tmps.getD 6 undef = .pointer (some ⟨gc, 0, none⟩))
    (hk : CardO w gk x) (hn : w.cell? ⟨gn, 0, none⟩ = some (.int .i64 n)) (hc : w.cell? ⟨gc, 0, none⟩ = some (.int .i64 c)) :
    (results Tryz.f66 tmps).run Tryz.prog w = .ok (.tuple #[.agg x.cells.toArray, .int .i64 n, .int .i64 c]) w := by
  have h4' : tmps[4]?.getD undef = .pointer (some ⟨gk, 0, none⟩) := by simpa using h4
  have h5' : tmps[5]?.getD undef = .pointer (some ⟨gn, 0, none⟩) := by simpa using h5
  have h6' : tmps[6]?.getD undef = .pointer (some ⟨gc, 0, none⟩) := by simpa using h6
  have hl5 : (loadVar 3 ⟨gn, 0, none⟩).run Tryz.prog w = .ok (.int .i64 n) w := by simp [go_sem, hn]
  have hl6 : (loadVar 3 ⟨gc, 0, none⟩).run Tryz.prog w = .ok (.int .i64 c) w := by simp [go_sem, hc]
  simp [results, Tryz.results66, h4', h5', h6', asAddr, load_OC hk, hl5, hl6]
theorem last3 {w w3 : World} {B gk gn gc : Nat} {x : Card} {n y z : Int} (T0 : CardO w3 gk x) (T2 : w3.heap[gn]? = some (.cells #[.int .i64 y] 3 (0, 0))) (T3 : w3.heap[gc]? = some (.cells #[.int .i64 z] 3 (0, 0))) (TB : Below B w w3) (h1 : gk ≠ gn) (h2 : gk ≠ gc) (h3 : gn ≠ gc) (h4 : B ≤ gk) (h5 : B ≤ gn) (h6 : B ≤ gc) :
    CardO (((putOC w3 gk x).setCell ⟨gn, 0, none⟩ (.int .i64 n)).setCell ⟨gc, 0, none⟩ (.int .i64 0)).drew gk x ∧ (((putOC w3 gk x).setCell ⟨gn, 0, none⟩ (.int .i64 n)).setCell ⟨gc, 0, none⟩ (.int .i64 0)).drew.heap[gn]? = some (.cells #[.int .i64 n] 3 (0, 0)) ∧ (((putOC w3 gk x).setCell ⟨gn, 0, none⟩ (.int .i64 n)).setCell ⟨gc, 0, none⟩ (.int .i64 0)).drew.heap[gc]? = some (.cells #[.int .i64 0] 3 (0, 0)) ∧ Below B w (((putOC w3 gk x).setCell ⟨gn, 0, none⟩ (.int .i64 n)).setCell ⟨gc, 0, none⟩ (.int .i64 0)).drew := by
  have X0 := T0.put x
  have X2 := (putOC_other (w := w3) (y := x) (fun e => h1 e.symm)).trans T2
  have X3 := (putOC_other (w := w3) (y := x) (fun e => h2 e.symm)).trans T3
  have XB := below_putOC TB h4 x
  generalize putOC w3 gk x = w4 at X0 X2 X3 XB ⊢
  have Y0 : CardO (w4.setCell ⟨gn, 0, none⟩ (.int .i64 n)) gk x := X0.other h1
  have Y2 := heap_setK (i := 0) (v := .int .i64 n) X2
  have Y3 := (Below.heap_setCell w4 ⟨gn, 0, none⟩ (.int .i64 n) gc (fun e => h3 e.symm)).trans X3
  have YB := XB.setCell (p := ⟨gn, 0, none⟩) h5 (.int .i64 n)
  generalize w4.setCell ⟨gn, 0, none⟩ (.int .i64 n) = w5 at Y0 Y2 Y3 YB ⊢
  have Z0 : CardO (w5.setCell ⟨gc, 0, none⟩ (.int .i64 0)) gk x := Y0.other h2
  have Z2 := (Below.heap_setCell w5 ⟨gc, 0, none⟩ (.int .i64 0) gn h3).trans Y2
  have Z3 := heap_setK (i := 0) (v := .int .i64 0) Y3
  have ZB := YB.setCell (p := ⟨gc, 0, none⟩) h6 (.int .i64 0)
  exact ⟨Z0, Z2, Z3, ZB.drew⟩
set_option maxHeartbeats 800000 in
set_option maxRecDepth 8000 in
theorem getCard_impl (s : ByteArray) (i : Int) (w : World) (hs : s.size ≤ 1048576) (hi : i ≤ 9223372036854775807) :
    Calls Tryz.prog 66 #[.string s, .int .i64 i] w fun e w' => e = .returned (cdV s i) ∧ Below w.heap.size w w' := by
  have HR := Lib.hid (fun w => readCard_any s i w hs hi)
  by_cases hc : cdCode s i = 0
  · have HV : Hid (cdV s i = .tuple #[.agg (cdCard s i).cells.toArray, .int .i64 (cdNext s i), .int .i64 0]) := Lib.hid (by rw [cdV, hc])
    rw [rdE, if_pos hc] at HR
    generalize cdV s i = V at HV
    generalize cdNext s i = n at HV HR
    generalize cdCard s i = x at HV HR
    clear hc
    go_enter_defers Tryz.func66, Tryz.ntmps66
    go_upto_region 2 with fail
    obtain ⟨p0, p1, p2, p3, p4, p5⟩ := four w (.cells #[.int .i64 i] 3 (0, 0)) (.cells zeroC.cells.toArray 48 (0, 0)) (.cells #[.int .i64 0] 3 (0, 0)) (.cells #[.int .i64 0] 3 (0, 0))
    generalize hw1 : World.alloc (World.alloc (World.alloc (World.alloc w _) _) _) _ = w1
    replace p0 : w1.heap[w.heap.size]? = some (.cells #[.int .i64 i] 3 (0, 0)) := by rw [← hw1]; exact p0
    replace p1 : CardO w1 (w.heap.size + 1) zeroC := by rw [← hw1]; exact p1
    replace p2 : w1.heap[w.heap.size + 1 + 1]? = some (.cells #[.int .i64 0] 3 (0, 0)) := by rw [← hw1]; exact p2
    replace p3 : w1.heap[w.heap.size + 1 + 1 + 1]? = some (.cells #[.int .i64 0] 3 (0, 0)) := by rw [← hw1]; exact p3
    replace p4 : Below w.heap.size w w1 := by rw [← hw1]; exact p4
    replace p5 : w1.heap.size = w.heap.size + 4 := by rw [← hw1]; exact p5
    clear hw1
    have P0 := Lib.hid p0
    have P1 := Lib.hid p1
    have P2 := Lib.hid p2
    have P3 := Lib.hid p3
    have P4 := Lib.hid p4
    have P5 := Lib.hid p5
    have q0 : w1.cell? ⟨w.heap.size, 0, none⟩ = some (.int .i64 i) := by simp [World.cell?, p0]
    clear p0 p1 p2 p3 p4 p5
    go_wp2_with fail
    refine (HR.out _).mono ?_
    rintro e w2 ⟨rfl, hb⟩
    have Q0 := Lib.hid ((hb.block w.heap.size (by have := P5.out; omega)).trans P0.out)
    have Q1 : Hid (CardO w2 (w.heap.size + 1) zeroC) := Lib.hid ((hb.block (w.heap.size + 1) (by have := P5.out; omega)).trans P1.out)
    have Q2 := Lib.hid ((hb.block (w.heap.size + 1 + 1) (by have := P5.out; omega)).trans P2.out)
    have Q3 := Lib.hid ((hb.block (w.heap.size + 1 + 1 + 1) (by have := P5.out; omega)).trans P3.out)
    have QB := Lib.hid (P4.out.trans (hb.mono P4.out.size))
    have QS : Hid (w.heap.size + 4 ≤ w2.heap.size) := Lib.hid (by have := hb.size; have := P5.out; omega)
    clear hb q0 P0 P1 P2 P3 P4 P5
    have hR := Q1.out
    unfold CardO at hR
    have r0 : w2.cell? ⟨w.heap.size + 1, 0, none⟩ = some (.int .i64 0) := by simp [World.cell?, hR, zeroC, Card.cells]
    have r1 : w2.cell? ⟨w.heap.size + 1, 1, none⟩ = some (.int .i64 0) := by simp [World.cell?, hR, zeroC, Card.cells]
    have r2 : w2.cell? ⟨w.heap.size + 1, 2, none⟩ = some (.int .i64 0) := by simp [World.cell?, hR, zeroC, Card.cells]
    have r3 : w2.cell? ⟨w.heap.size + 1, 3, none⟩ = some (.int .i64 0) := by simp [World.cell?, hR, zeroC, Card.cells]
    have r4 : w2.cell? ⟨w.heap.size + 1, 4, none⟩ = some (.int .i64 0) := by simp [World.cell?, hR, zeroC, Card.cells]
    have r5 : w2.cell? ⟨w.heap.size + 1, 5, none⟩ = some (.int .i64 0) := by simp [World.cell?, hR, zeroC, Card.cells]
    have r6 : w2.cell? ⟨w.heap.size + 1, 6, none⟩ = some (.string ⟨#[]⟩) := by simp [World.cell?, hR, zeroC, Card.cells]
    have r7 : w2.cell? ⟨w.heap.size + 1, 7, none⟩ = some (.string ⟨#[]⟩) := by simp [World.cell?, hR, zeroC, Card.cells]
    have z0 := Q1.out.fz 0
    have z1 := Q1.out.fz 1
    have z2 := Q1.out.fz 2
    have z3 := Q1.out.fz 3
    have z4 := Q1.out.fz 4
    have z5 := Q1.out.fz 5
    have z6 := Q1.out.fz 6
    have z7 := Q1.out.fz 7
    have r8 : w2.cell? ⟨w.heap.size + 1 + 1, 0, none⟩ = some (.int .i64 0) := by simp [World.cell?, Q2.out]
    have z8 : w2.frozen? ⟨w.heap.size + 1 + 1, 0, none⟩ = false := by simp [World.frozen?, Q2.out]
    obtain ⟨xi, xm, xu, xg, xc, xt, xp, xd⟩ := x
    simp only [Card.cells]
    clear hR
    go_upto_region 3 with fail
    clear r0 r1 r2 r3 r4 r5 r6 r7 r8 z0 z1 z2 z3 z4 z5 z6 z7 z8
    generalize hw3 : World.setCell _ ⟨w.heap.size + 1 + 1, 0, none⟩ _ = w3
    have T0 : Hid (CardO w3 (w.heap.size + 1) ⟨xi, xm, xu, xg, xc, xt, xp, xd⟩) := Lib.hid (by rw [← hw3]; exact (Q1.out.put ⟨xi, xm, xu, xg, xc, xt, xp, xd⟩).other (by omega))
    have T2 : Hid (w3.heap[w.heap.size + 1 + 1]? = some (.cells #[.int .i64 n] 3 (0, 0))) := Lib.hid (by rw [← hw3]; exact heap_setK ((putOC_other (w := w2) (g := w.heap.size + 1) (y := ⟨xi, xm, xu, xg, xc, xt, xp, xd⟩) (by omega)).trans Q2.out))
    have T3 : Hid (w3.heap[w.heap.size + 1 + 1 + 1]? = some (.cells #[.int .i64 0] 3 (0, 0))) := Lib.hid (by rw [← hw3]; exact (Below.heap_setCell _ _ _ _ (by simp)).trans ((putOC_other (w := w2) (g := w.heap.size + 1) (y := ⟨xi, xm, xu, xg, xc, xt, xp, xd⟩) (by omega)).trans Q3.out))
    have TB : Hid (Below w.heap.size w w3) := Lib.hid (by rw [← hw3]; exact (below_putOC (g := w.heap.size + 1) QB.out (by omega) ⟨xi, xm, xu, xg, xc, xt, xp, xd⟩).setCell (by simp; omega) _)
    clear hw3 Q0 Q1 Q2 Q3 QB QS HR
    have hR := T0.out
    unfold CardO at hR
    have r0 : w3.cell? ⟨w.heap.size + 1, 0, none⟩ = some (.int .i64 xi) := by simp [World.cell?, hR, Card.cells]
    have r1 : w3.cell? ⟨w.heap.size + 1, 1, none⟩ = some (.int .i64 xm) := by simp [World.cell?, hR, Card.cells]
    have r2 : w3.cell? ⟨w.heap.size + 1, 2, none⟩ = some (.int .i64 xu) := by simp [World.cell?, hR, Card.cells]
    have r3 : w3.cell? ⟨w.heap.size + 1, 3, none⟩ = some (.int .i64 xg) := by simp [World.cell?, hR, Card.cells]
    have r4 : w3.cell? ⟨w.heap.size + 1, 4, none⟩ = some (.int .i64 xc) := by simp [World.cell?, hR, Card.cells]
    have r5 : w3.cell? ⟨w.heap.size + 1, 5, none⟩ = some (.int .i64 xt) := by simp [World.cell?, hR, Card.cells]
    have r6 : w3.cell? ⟨w.heap.size + 1, 6, none⟩ = some (.string xp) := by simp [World.cell?, hR, Card.cells]
    have r7 : w3.cell? ⟨w.heap.size + 1, 7, none⟩ = some (.string xd) := by simp [World.cell?, hR, Card.cells]
    have z0 := T0.out.fz 0
    have z1 := T0.out.fz 1
    have z2 := T0.out.fz 2
    have z3 := T0.out.fz 3
    have z4 := T0.out.fz 4
    have z5 := T0.out.fz 5
    have z6 := T0.out.fz 6
    have z7 := T0.out.fz 7
    have r8 : w3.cell? ⟨w.heap.size + 1 + 1, 0, none⟩ = some (.int .i64 n) := by simp [World.cell?, T2.out]
    have z8 : w3.frozen? ⟨w.heap.size + 1 + 1, 0, none⟩ = false := by simp [World.frozen?, T2.out]
    have r9 : w3.cell? ⟨w.heap.size + 1 + 1 + 1, 0, none⟩ = some (.int .i64 0) := by simp [World.cell?, T3.out]
    have z9 : w3.frozen? ⟨w.heap.size + 1 + 1 + 1, 0, none⟩ = false := by simp [World.frozen?, T3.out]
    clear hR
    go_region
    clear r0 r1 r2 r3 r4 r5 r6 r7 r8 r9 z0 z1 z2 z3 z4 z5 z6 z7 z8 z9
    obtain ⟨M0, M2, M3, MB⟩ := last3 (x := ⟨xi, xm, xu, xg, xc, xt, xp, xd⟩) (n := n) T0.out T2.out T3.out TB.out (by omega) (by omega) (by omega) (by omega) (by omega) (by omega)
    simp only [putOC] at M0 M2 M3 MB
    generalize World.drew _ = w4 at M0 M2 M3 MB ⊢
    replace M0 := Lib.hid M0
    replace M2 := Lib.hid M2
    replace M3 := Lib.hid M3
    replace MB := Lib.hid MB
    clear T0 T2 T3 TB
    have l1 := M0.out.lt
    have l2 := (Array.getElem?_eq_some_iff.1 M2.out).1
    have l3 := (Array.getElem?_eq_some_iff.1 M3.out).1
    go_wp2
    refine leaves_cons (f := 111) (args := #[.pointer (some ⟨w.heap.size + 1 + 1 + 1, 0, none⟩), .pointer (some ⟨w.heap.size, 0, none⟩), .pointer (some ⟨w.heap.size + 1, 0, none⟩), .pointer (some ⟨w.heap.size + 1 + 1, 0, none⟩)]) (by simp) (by simp [go_sem]) ?_
    refine (get_idle (w.heap.size + 1 + 1 + 1) w.heap.size (w.heap.size + 1) (w.heap.size + 1 + 1) 0 _ M3.out).mono ?_
    rintro e u' w5 ⟨rfl, rfl, w6, hb, rfl⟩
    have N0 : CardO (w6.setCell ⟨w.heap.size + 1 + 1 + 1, 0, none⟩ (.int .i64 0)) (w.heap.size + 1) ⟨xi, xm, xu, xg, xc, xt, xp, xd⟩ := CardO.other ((hb.block _ l1).trans M0.out) (by omega)
    have N2 := (Below.heap_setCell w6 ⟨w.heap.size + 1 + 1 + 1, 0, none⟩ (.int .i64 0) (w.heap.size + 1 + 1) (by simp)).trans ((hb.block _ l2).trans M2.out)
    have N3 := heap_setK (i := 0) (v := .int .i64 0) ((hb.block _ l3).trans M3.out)
    have NB := (MB.out.trans (hb.mono MB.out.size)).setCell (p := ⟨w.heap.size + 1 + 1 + 1, 0, none⟩) (by simp; omega) (.int .i64 0)
    generalize w6.setCell ⟨w.heap.size + 1 + 1 + 1, 0, none⟩ (.int .i64 0) = w7 at N0 N2 N3 NB ⊢
    show ∃ v, (results Tryz.f66 _).run Tryz.prog w7 = .ok v w7 ∧ (Ending.returned v = Ending.returned V ∧ Below w.heap.size w w7)
    exact ⟨_, res_get (gk := w.heap.size + 1) (gn := w.heap.size + 1 + 1) (gc := w.heap.size + 1 + 1 + 1) (x := ⟨xi, xm, xu, xg, xc, xt, xp, xd⟩) (n := n) (c := 0) rfl rfl rfl N0 (by simp [World.cell?, N2]) (by simp [World.cell?, N3]), by rw [HV.out], NB⟩
  · have HV := Lib.hid (cdV_bad (badCd_of (c := cdCode s i) rfl hc))
    rw [rdE, if_neg hc] at HR
    generalize cdV s i = V at HV
    generalize cdCode s i = c at HV HR hc
    go_enter_defers Tryz.func66, Tryz.ntmps66
    go_upto_region 2 with fail
    obtain ⟨p0, p1, p2, p3, p4, p5⟩ := four w (.cells #[.int .i64 i] 3 (0, 0)) (.cells zeroC.cells.toArray 48 (0, 0)) (.cells #[.int .i64 0] 3 (0, 0)) (.cells #[.int .i64 0] 3 (0, 0))
    generalize hw1 : World.alloc (World.alloc (World.alloc (World.alloc w _) _) _) _ = w1
    replace p0 : w1.heap[w.heap.size]? = some (.cells #[.int .i64 i] 3 (0, 0)) := by rw [← hw1]; exact p0
    replace p1 : CardO w1 (w.heap.size + 1) zeroC := by rw [← hw1]; exact p1
    replace p2 : w1.heap[w.heap.size + 1 + 1]? = some (.cells #[.int .i64 0] 3 (0, 0)) := by rw [← hw1]; exact p2
    replace p3 : w1.heap[w.heap.size + 1 + 1 + 1]? = some (.cells #[.int .i64 0] 3 (0, 0)) := by rw [← hw1]; exact p3
    replace p4 : Below w.heap.size w w1 := by rw [← hw1]; exact p4
    replace p5 : w1.heap.size = w.heap.size + 4 := by rw [← hw1]; exact p5
    clear hw1
    have P0 := Lib.hid p0
    have P1 := Lib.hid p1
    have P2 := Lib.hid p2
    have P3 := Lib.hid p3
    have P4 := Lib.hid p4
    have P5 := Lib.hid p5
    have q0 : w1.cell? ⟨w.heap.size, 0, none⟩ = some (.int .i64 i) := by simp [World.cell?, p0]
    clear p0 p1 p2 p3 p4 p5
    go_wp2_with fail
    refine (HR.out _).mono ?_
    rintro e w2 ⟨rfl, hb⟩
    have Q0 := Lib.hid ((hb.block w.heap.size (by have := P5.out; omega)).trans P0.out)
    have Q1 : Hid (CardO w2 (w.heap.size + 1) zeroC) := Lib.hid ((hb.block (w.heap.size + 1) (by have := P5.out; omega)).trans P1.out)
    have Q2 := Lib.hid ((hb.block (w.heap.size + 1 + 1) (by have := P5.out; omega)).trans P2.out)
    have Q3 := Lib.hid ((hb.block (w.heap.size + 1 + 1 + 1) (by have := P5.out; omega)).trans P3.out)
    have QB := Lib.hid (P4.out.trans (hb.mono P4.out.size))
    have QS : Hid (w.heap.size + 4 ≤ w2.heap.size) := Lib.hid (by have := hb.size; have := P5.out; omega)
    clear hb q0 P0 P1 P2 P3 P4 P5
    show Leaves Tryz.prog _ _ _ _ (.panicking (panC c)) w2
    refine leaves_cons (f := 111) (args := #[.pointer (some ⟨w.heap.size + 1 + 1 + 1, 0, none⟩), .pointer (some ⟨w.heap.size, 0, none⟩), .pointer (some ⟨w.heap.size + 1, 0, none⟩), .pointer (some ⟨w.heap.size + 1 + 1, 0, none⟩)]) (by simp) (by simp [go_sem]) ?_
    refine (get_catch (w.heap.size + 1 + 1 + 1) w.heap.size (w.heap.size + 1) (w.heap.size + 1 + 1) c i 0 0 zeroC _ hc (by omega) (by omega) (by omega) (by omega) (by omega) Q3.out Q0.out Q2.out Q1.out).mono ?_
    rintro e u' w3 ⟨rfl, rfl, w4, hb4, rfl⟩
    have U0 : CardO w4 (w.heap.size + 1) zeroC := (hb4.block (w.heap.size + 1) (by have := QS.out; omega)).trans Q1.out
    have U2 : w4.heap[w.heap.size + 1 + 1]? = some (.cells #[.int .i64 0] 3 (0, 0)) := (hb4.block (w.heap.size + 1 + 1) (by have := QS.out; omega)).trans Q2.out
    have U3 : w4.heap[w.heap.size + 1 + 1 + 1]? = some (.cells #[.int .i64 0] 3 (0, 0)) := (hb4.block (w.heap.size + 1 + 1 + 1) (by have := QS.out; omega)).trans Q3.out
    have UB : Below w.heap.size w w4 := QB.out.trans (hb4.mono QB.out.size)
    clear hb4 Q0 Q1 Q2 Q3 QB QS
    have V0 : CardO (w4.setCell ⟨w.heap.size + 1 + 1 + 1, 0, none⟩ (.int .i64 c)) (w.heap.size + 1) zeroC := U0.other (by omega)
    have V3 := heap_setK (i := 0) (v := .int .i64 c) U3
    have V2 : (w4.setCell ⟨w.heap.size + 1 + 1 + 1, 0, none⟩ (.int .i64 c)).heap[w.heap.size + 1 + 1]? = some (.cells #[.int .i64 0] 3 (0, 0)) := (Below.heap_setCell _ _ _ _ (by simp)).trans U2
    have VB := UB.setCell (p := ⟨w.heap.size + 1 + 1 + 1, 0, none⟩) (by simp; omega) (.int .i64 c)
    clear U0 U2 U3 UB
    generalize w4.setCell ⟨w.heap.size + 1 + 1 + 1, 0, none⟩ (.int .i64 c) = w5 at V0 V2 V3 VB ⊢
    have X0 := V0.put zeroC
    have X3 := (putOC_other (w := w5) (b := w.heap.size + 1 + 1 + 1) (g := w.heap.size + 1) (y := zeroC) (by omega)).trans V3
    have X2 := (putOC_other (w := w5) (b := w.heap.size + 1 + 1) (g := w.heap.size + 1) (y := zeroC) (by omega)).trans V2
    have XB := below_putOC (g := w.heap.size + 1) VB (by omega) zeroC
    clear V0 V2 V3 VB
    generalize putOC w5 (w.heap.size + 1) zeroC = w6 at X0 X2 X3 XB ⊢
    have Y0 : CardO (w6.setCell ⟨w.heap.size + 1 + 1, 0, none⟩ (.int .i64 i)) (w.heap.size + 1) zeroC := X0.other (by omega)
    have Y2 := heap_setK (i := 0) (v := .int .i64 i) X2
    have Y3 := (Below.heap_setCell w6 ⟨w.heap.size + 1 + 1, 0, none⟩ (.int .i64 i) (w.heap.size + 1 + 1 + 1) (by simp)).trans X3
    have YB := XB.setCell (p := ⟨w.heap.size + 1 + 1, 0, none⟩) (by simp; omega) (.int .i64 i)
    generalize w6.setCell ⟨w.heap.size + 1 + 1, 0, none⟩ (.int .i64 i) = w7 at Y0 Y2 Y3 YB ⊢
    have hr := res_get (w := w7) (gk := w.heap.size + 1) (gn := w.heap.size + 1 + 1) (gc := w.heap.size + 1 + 1 + 1) (x := zeroC) (n := i) (c := c) (tmps := #[.string s, .int .i64 i, undef, .pointer (some ⟨w.heap.size, 0, none⟩), .pointer (some ⟨w.heap.size + 1, 0, none⟩), .pointer (some ⟨w.heap.size + 1 + 1, 0, none⟩), .pointer (some ⟨w.heap.size + 1 + 1 + 1, 0, none⟩), .func (.func 111) #[] #[.pointer (some ⟨w.heap.size + 1 + 1 + 1, 0, none⟩), .pointer (some ⟨w.heap.size, 0, none⟩), .pointer (some ⟨w.heap.size + 1, 0, none⟩), .pointer (some ⟨w.heap.size + 1 + 1, 0, none⟩)], undef, .string s, .int .i64 i, undef, undef, undef, undef, undef]) rfl rfl rfl Y0 (by simp [World.cell?, Y2]) (by simp [World.cell?, Y3])
    show ∃ v, (results Tryz.f66 _).run Tryz.prog w7 = .ok v w7 ∧ (Ending.returned v = Ending.returned V ∧ Below w.heap.size w w7)
    exact ⟨_, hr, by rw [HV.out]; rfl, YB⟩
end Go.Proofs.YtcnmbolmgifgfabGreatDoor

/- Contract of impl.cardFormat.cards at the format with octal headers. -/
namespace Go.Proofs.YtcnmbolmgifgfabGreatDoor
open Go.ChangeShapes Go.WideShapes Go.ChangeAt Go.RowKit Go.Deep

theorem cell_newR (w : World) (e : Card) (t : TypeId) (ht : t = 48) : ∀ j u, e.cells[j]? = some u → (w.alloc (.cells e.cells.toArray t)).cell? ((⟨w.heap.size, 0, none⟩ : Addr).add j) = some u := by
  intro j u hu
  subst ht
  have hj : j < 8 := by
    by_cases h : j < 8
    · exact h
    · rw [List.getElem?_eq_none (by rw [cells_lenC]; omega)] at hu; cases hu
  rw [show (⟨w.heap.size, 0, none⟩ : Addr).add j = ⟨w.heap.size, 0 + j, none⟩ from by unfold Addr.add; split <;> simp_all, (CardO.new w e).at j hj]
  exact hu
theorem own_neR {w : World} {base : Nat} {e t : TypeId} {k : Nat} {v : Value} {n g : Nat} {xs : List Value} {cs : Array Value} {fr : Nat × Nat} (h : w.ownsRow base e k v n xs) (hg : w.heap[g]? = some (.cells cs t fr)) (ht : ¬ t = e) : some g ≠ v.ownBlock := by
  intro e1
  rcases h.2 with ⟨h0, _⟩ | ⟨g', cap', cur, hv, hg', hh, _⟩
  · subst h0; simp [Value.ownBlock] at e1
  · subst hv
    simp [Value.ownBlock] at e1
    subst e1
    rw [hg] at hh
    simp at hh
    exact ht hh.2.1
set_option maxHeartbeats 3200000 in
set_option maxRecDepth 8000 in
theorem cards_odc (s : ByteArray) (w : World) (hs : s.size ≤ 1048576) :
    Calls Tryz.prog 73 #[.agg #[.func (.func 64) #[] #[], .func (.func 65) #[] #[], .func (.func 66) #[] #[]], .string s] w fun e w' => ((odcO s).1 = 0 → ∃ v, e = .returned v ∧ OwnNC w' w.heap.size v (odcO s).2 ∧ (odcO s).2.length * 76 + 76 ≤ s.size ∧ (∀ c ∈ (odcO s).2, szC c ≤ s.size ∧ c.wf)) ∧ (¬ (odcO s).1 = 0 → e = .panicked (panC (odcO s).1)) ∧ Below w.heap.size w w' := by
  obtain ⟨i0, hi0, hz0, hz1, hz2⟩ := info_parts Tryz.infoC
  have HGet : Hid (∀ (p : Nat) (w' : World), p < s.size → Below w.heap.size w w' → Calls Tryz.prog 66 #[.string s, .int .i64 (p : Int)] w' fun e w'' => e = .returned (.tuple #[.agg ((odcR s) p).1.cells.toArray, .int .i64 ((odcR s) p).2.1, .int .i64 ((odcR s) p).2.2]) ∧ Below w'.heap.size w' w'') := Lib.hid (fun p w' hp hb => getCard_impl s p w' hs (by omega))
  have HGood := Lib.hid (odcR_good s hs)
  have S0 := Lib.hid (StR.start (odcR s) s.size 76)
  rw [show outc (odcR s) s.size (s.size + 1) [] 0 = odcO s from rfl] at S0
  obtain ⟨z, hz⟩ : ∃ z, s.size = z := ⟨_, rfl⟩
  have HZ := Lib.hid hz
  generalize odcO s = O at S0 ⊢
  rw [hz] at hs HGood S0 HGet ⊢
  generalize odcR s = R at HGet HGood S0
  clear hz
  obtain ⟨oc, oq⟩ := O
  simp only
  have HPost : Hid (∀ (e : Ending) (w' : World), (∃ v, e = .returned v ∧ OwnNC w' w.heap.size v oq ∧ oq.length * 76 + 76 ≤ z ∧ (∀ c ∈ oq, szC c ≤ z ∧ c.wf)) ∧ oc = 0 → Below w.heap.size w w' → ((oc = 0 → ∃ v, e = .returned v ∧ OwnNC w' w.heap.size v oq ∧ oq.length * 76 + 76 ≤ z ∧ (∀ c ∈ oq, szC c ≤ z ∧ c.wf)) ∧ (¬ oc = 0 → e = .panicked (panC oc)) ∧ Below w.heap.size w w')) := Lib.hid (fun e w' h hb => ⟨fun _ => h.1, fun hn => absurd h.2 hn, hb⟩)
  have HPan : Hid (∀ (c : Int) (w' : World), (oc, oq) = (c, ([] : List Card)) → ¬ c = 0 → Below w.heap.size w w' → ((oc = 0 → ∃ v, Ending.panicked (panC c) = .returned v ∧ OwnNC w' w.heap.size v oq ∧ oq.length * 76 + 76 ≤ z ∧ (∀ c ∈ oq, szC c ≤ z ∧ c.wf)) ∧ (¬ oc = 0 → Ending.panicked (panC c) = .panicked (panC oc)) ∧ Below w.heap.size w w')) := Lib.hid (fun c w' h hc hb => by
    obtain ⟨rfl, rfl⟩ := Prod.mk.inj h
    exact ⟨fun h0 => absurd h0 hc, fun _ => rfl, hb⟩)
  generalize hPo : (fun (e : Ending) (w' : World) => (oc = 0 → ∃ v, e = .returned v ∧ OwnNC w' w.heap.size v oq ∧ oq.length * 76 + 76 ≤ z ∧ (∀ c ∈ oq, szC c ≤ z ∧ c.wf)) ∧ (¬ oc = 0 → e = .panicked (panC oc)) ∧ Below w.heap.size w w') = Po
  have HPost2 : Hid (∀ (e : Ending) (w' : World), (∃ v, e = .returned v ∧ OwnNC w' w.heap.size v oq ∧ oq.length * 76 + 76 ≤ z ∧ (∀ c ∈ oq, szC c ≤ z ∧ c.wf)) ∧ oc = 0 → Below w.heap.size w w' → Po e w') := Lib.hid (by rw [← hPo]; exact HPost.out)
  have HPan2 : Hid (∀ (c : Int) (w' : World), (oc, oq) = (c, ([] : List Card)) → ¬ c = 0 → Below w.heap.size w w' → Po (.panicked (panC c)) w') := Lib.hid (by rw [← hPo]; exact HPan.out)
  clear hPo HPost HPan
  go_enter Tryz.func73, Tryz.ntmps73
  go_upto_region 1 with fail
  generalize hw1 : World.alloc w _ = wb
  have BF : Hid (wb.heap[w.heap.size]? = some (.cells #[.func (.func 64) #[] #[], .func (.func 65) #[] #[], .func (.func 66) #[] #[]] 54 (0, 0))) := Lib.hid (by rw [← hw1]; exact heap_lastG _ _)
  have B : Hid (Below w.heap.size w wb) := Lib.hid (by rw [← hw1]; exact (Below.refl _ _).alloc (Nat.le_refl _) _)
  clear hw1
  go_wp2_with fail
  go_loopw [5, 6, 7, 8, 9] (fun v u _ _ _ wr => ∃ (Q : List Card) (p : Nat), u = .int .i64 (p : Int) ∧ StR R z 76 (oc, oq) Q p ∧ OwnNC wr w.heap.size v Q ∧ wr.heap[w.heap.size]? = some (.cells #[.func (.func 64) #[] #[], .func (.func 65) #[] #[], .func (.func 66) #[] #[]] 54 (0, 0)) ∧ Below w.heap.size w wr) (fun _ u _ _ _ _ => z + 1 - (intOf u).toNat)
  case atStart => exact ⟨[], 0, rfl, S0.out, OwnNC.nil _ _, BF.out, B.out⟩
  case round =>
    obtain ⟨Q, p, rfl, hst, ho, hbf, hb⟩ := hrel
    clear S0 BF B
    have St := Lib.hid hst
    have O := Lib.hid ho
    have BF := Lib.hid hbf
    have B := Lib.hid hb
    clear hst ho hbf hb
    by_cases hp : ¬ p < z
    · have hlt : ¬ (p : Int) < (s.size : Int) := by have := HZ.out; omega
      have HO := Lib.hid (St.out.over hp)
      clear St
      go_wp2_with fail
      refine (demand_no 5 _).mono ?_
      rintro e w8 ⟨rfl, rfl⟩
      exact ⟨rfl, HPan2.out 5 _ HO.out (by decide) B.out⟩
    have hp : p < z := Decidable.byContradiction hp
    have hlt : (p : Int) < (s.size : Int) := by have := HZ.out; omega
    have p2 : wr.cell? ⟨w.heap.size, 2, none⟩ = some (.func (.func 66) #[] #[]) := by simp [World.cell?, BF.out]
    have HG2 := Lib.hid (fun w' hb => HGet.out p w' hp hb)
    have HCo := Lib.hid (fun h => St.out.code hp h)
    have HMo := Lib.hid (fun h t n => St.out.more hp h t n)
    have HLa := Lib.hid (fun h t n => St.out.last HGood.out hp h t n)
    have HStp := Lib.hid (fun h t => St.out.step HGood.out (by decide) hp h t)
    rcases hRp : R p with ⟨⟨q0, q1, q2, q3, q4, q5, qp, qd⟩, nx, co⟩
    rw [hRp] at HG2 HCo HMo HLa HStp
    simp only at HG2 HCo HMo HLa HStp
    have HQl := Lib.hid (show Q.length ≤ p by have := St.out.2.1; omega)
    clear hRp HGet HGood
    go_wp2_with fail
    refine (demand_ok 5 _).mono ?_
    rintro e w8 ⟨rfl, rfl⟩
    go_wp2_with fail
    refine (HG2.out _ B.out).mono ?_
    rintro e w2 ⟨rfl, hb⟩
    replace O := Lib.hid (O.out.below hb)
    replace BF := Lib.hid ((hb.block _ (Array.getElem?_eq_some_iff.1 BF.out).1).trans BF.out)
    replace B := Lib.hid (btC B.out hb)
    clear hb p2 HG2
    have NB : Below w2.heap.size w2 (w2.alloc (.cells (Card.cells ⟨q0, q1, q2, q3, q4, q5, qp, qd⟩).toArray 48)) := (Below.refl _ _).alloc (Nat.le_refl _) _
    have XC := Lib.hid (CardO.new w2 ⟨q0, q1, q2, q3, q4, q5, qp, qd⟩)
    replace O := Lib.hid (O.out.below NB)
    replace BF := Lib.hid ((NB.block _ (Array.getElem?_eq_some_iff.1 BF.out).1).trans BF.out)
    replace B := Lib.hid (btC B.out NB)
    clear NB
    simp only [Card.cells] at XC O BF B ⊢
    go_upto_region 5 with fail
    generalize World.alloc w2 _ = w3 at XC O BF B ⊢
    obtain ⟨d0, d1, d2, d3, d4, d5, d6, d7⟩ := XC.out.at.zero
    simp only at d0 d1 d2 d3 d4 d5 d6 d7
    by_cases hc : ¬ co = 0
    · have e1 : (co == 0) = false := by simpa using hc
      have HO := Lib.hid (HCo.out hc)
      clear HCo HMo HLa HStp
      go_wp2_with fail
      refine (demand_no co _).mono ?_
      rintro e w8 ⟨rfl, rfl⟩
      exact ⟨rfl, HPan2.out co _ HO.out hc B.out⟩
    have hc : co = 0 := Decidable.byContradiction hc
    subst hc
    have HMo2 := Lib.hid (fun t n => HMo.out rfl t n)
    have HLa2 := Lib.hid (fun t n => HLa.out rfl t n)
    have HSt2 := Lib.hid (fun t => HStp.out rfl t)
    clear HCo HMo HLa HStp
    go_wp2_with fail
    refine (demand_ok 0 _).mono ?_
    rintro e w8 ⟨rfl, rfl⟩
    cases ht : isTr qp with
    | true =>
      have e1 : (qp.toList == [84, 82, 65, 73, 76, 69, 82, 33, 33, 33]) = true := ht
      have HMo3 := Lib.hid (fun n => HMo2.out ht n)
      have HLa3 := Lib.hid (fun n => HLa2.out ht n)
      clear HMo2 HLa2 HSt2 ht
      by_cases hn : ¬ nx = (z : Int)
      · have e2 : (nx == (s.size : Int)) = false := by rw [HZ.out]; simpa using hn
        have HO := Lib.hid (HMo3.out hn)
        clear HMo3 HLa3
        go_wp2_with fail
        refine (demand_no 5 _).mono ?_
        rintro e w9 ⟨rfl, rfl⟩
        exact ⟨rfl, HPan2.out 5 _ HO.out (by decide) B.out⟩
      have hn : nx = (z : Int) := Decidable.byContradiction hn
      have e2 : (nx == (s.size : Int)) = true := by rw [HZ.out]; simpa using hn
      obtain ⟨hO, hl, hq⟩ := HLa3.out hn
      obtain ⟨rfl, rfl⟩ := Prod.mk.inj hO
      have HL := Lib.hid hl
      have HQ := Lib.hid hq
      clear HMo3 HLa3 hl hq hO hn
      go_wp2_with fail
      refine (demand_ok 5 _).mono ?_
      rintro e w9 ⟨rfl, rfl⟩
      go_wp2_with fail
      exact HPost2.out _ _ ⟨⟨_, rfl, O.out, HL.out, HQ.out⟩, by simp⟩ B.out
    | false =>
      have e1 : (qp.toList == [84, 82, 65, 73, 76, 69, 82, 33, 33, 33]) = false := ht
      obtain ⟨q, hq, hpq, hst⟩ := HSt2.out ht
      subst hq
      have hqz := hst.2.2.2
      have St2 := Lib.hid hst
      have hql := HQl.out
      have hszB := B.out.size
      clear HMo2 HLa2 HSt2 ht hst
      go_wp2_with (at_builtin; refine wpList_append_own _ rfl _ _ 42 rfl w.heap.size 48 i0 (.agg #[.int .i64 0, .int .i64 0, .int .i64 0, .int .i64 0, .int .i64 0, .int .i64 0, .string ⟨#[]⟩, .string ⟨#[]⟩]) 8 80 Tryz.underlying42 hi0 hz0 hz1 hz2 rfl (by decide) _ Q.length (valsC Q) rfl ?c0q ⟨w8.heap.size, 0, none⟩ 1 1 (valsC [⟨q0, q1, q2, q3, q4, q5, qp, qd⟩]) rfl (valsC_len _) ?c1q ?c2q ?c3q ?c4q ?c5q ?_)
      case c0q => exact World.ownsRow.alloc O.out _
      case c1q => intro jj uu hu; rw [valsC_one] at hu; exact cell_newR _ ⟨q0, q1, q2, q3, q4, q5, qp, qd⟩ _ rfl jj uu hu
      case c2q => exact valsC_onecell _
      any_goals (first | (simp only [maxLen]; omega) | omega | (simp; omega))
      intro v' w9 hown hgrow hnil
      have NB : Below w8.heap.size w8 (w8.alloc (.cells (Card.cells ⟨q0, q1, q2, q3, q4, q5, qp, qd⟩).toArray 48)) := (Below.refl _ _).alloc (Nat.le_refl _) _
      have O9 : Hid (OwnNC w9 w.heap.size v' (Q ++ [⟨q0, q1, q2, q3, q4, q5, qp, qd⟩])) := Lib.hid (ownNC_app hown rfl rfl)
      have zb := (Array.getElem?_eq_some_iff.1 BF.out).1
      have F9 := Lib.hid ((hgrow.block _ (Nat.lt_of_lt_of_le zb NB.size) (own_neR (World.ownsRow.alloc O.out _) ((NB.block _ zb).trans BF.out) (by decide))).trans ((NB.block _ zb).trans BF.out))
      have B9 := Lib.hid ((btC B.out NB).grown hgrow (by have := NB.size; have := B.out.size; omega) (fun b hb => OwnNC.block O.out b hb))
      clear hown hgrow hnil NB O BF B XC d0 d1 d2 d3 d4 d5 d6 d7 zb
      go_wp2_with fail
      go_roundw
      case rel => exact ⟨_, q, rfl, St2.out, O9.out, F9.out, B9.out⟩
      case measure => simp [intOf]; omega
end Go.Proofs.YtcnmbolmgifgfabGreatDoor

/- Contracts of impl.upTo, impl.userOk, impl.symLinkOk. -/
namespace Go.Proofs.YtcnmbolmgifgfabGreatDoor
open Go.ChangeShapes Go.WideShapes Go.ChangeAt Go.RowKit

theorem upTo_any (x b : Int) (w : World) : Calls Tryz.prog 195 #[.int .i64 x, .int .i64 b] w fun e w' => e = .returned (.bool (inB x 0 b)) ∧ w = w' := by
  by_cases h1 : 0 ≤ x
  · by_cases h2 : x ≤ b
    · go_enter Tryz.func195, Tryz.ntmps195
      go_wp2
      go_ret
      exact ⟨by simp [inB]; omega, rfl⟩
    · go_enter Tryz.func195, Tryz.ntmps195
      go_wp2
      go_ret
      exact ⟨by simp [inB]; omega, rfl⟩
  · go_enter Tryz.func195, Tryz.ntmps195
    go_wp2
    go_ret
    exact ⟨by simp [inB]; omega, rfl⟩
theorem whob_t {c : UInt8} (h : whob c = true) : ((97 : Int) ≤ ((c.toNat : Nat) : Int) ∧ ((c.toNat : Nat) : Int) ≤ 122) ∨ ((48 : Int) ≤ ((c.toNat : Nat) : Int) ∧ ((c.toNat : Nat) : Int) ≤ 57) ∨ ((c.toNat : Nat) : Int) = 95 := by
  simp [whob] at h; omega
theorem whob_f {c : UInt8} (h : whob c = false) : ((c.toNat : Nat) : Int) < 48 ∨ ((57 : Int) < ((c.toNat : Nat) : Int) ∧ ((c.toNat : Nat) : Int) < 97 ∧ ¬ ((c.toNat : Nat) : Int) = 95) ∨ (122 : Int) < ((c.toNat : Nat) : Int) := by
  simp [whob] at h; omega
set_option maxHeartbeats 800000 in
theorem userOk_impl (s : ByteArray) (w : World) (hs : s.size ≤ 4194304) :
    Calls Tryz.prog 203 #[.string s] w fun e w' => e = .returned (.bool (whov s)) ∧ Below w.heap.size w w' := by
  have HB : Hid (∀ k, (h : k < s.size) → whob s[k] = false → whov s = false) := Lib.hid (fun k h hc => by rw [whov, allB_bad h hc]; rfl)
  have HD : Hid (AllB whob s s.size → s.size ≤ 20 → whov s = true) := Lib.hid (fun h h2 => by rw [whov, h.done, decide_eq_true h2]; rfl)
  have HZ : Hid (20 < s.size → whov s = false) := Lib.hid (fun h => by rw [whov, decide_eq_false (by omega)]; simp)
  generalize whov s = r at HB HD HZ
  by_cases hz : 20 < s.size
  · have hz2 : (20 : Int) < (s.size : Int) := by omega
    have HF := Lib.hid (HZ.out hz)
    go_enter Tryz.func203, Tryz.ntmps203
    go_wp2_with fail
    go_ret
    exact ⟨ret_bool HF.out.symm, Below.refl _ _⟩
  have hz2 : ¬ (20 : Int) < (s.size : Int) := by omega
  have hz3 : s.size ≤ 20 := by omega
  clear HZ
  go_enter Tryz.func203, Tryz.ntmps203
  go_wp2_with fail
  go_loopw [3, 4, 10] (fun _ _ u wr => ∃ i : Nat, u = .int .i64 i ∧ i ≤ s.size ∧ AllB whob s i ∧ Below w.heap.size w wr) (fun _ _ u _ => s.size - (intOf u).toNat)
  case atStart => exact ⟨0, rfl, Nat.zero_le _, AllB.start _ _, Below.refl _ _⟩
  case round =>
    obtain ⟨i, rfl, hi, hr, hb⟩ := hrel
    have HR := Lib.hid hr
    have B := Lib.hid hb
    clear hr hb
    by_cases hlt : i < s.size
    · have hlt2 : (i : Int) < (s.size : Int) := by omega
      have h8 := (s[i]).toNat_lt
      cases hc : whob s[i] with
      | false =>
        have HF : Hid (r = false) := Lib.hid (HB.out i hlt hc)
        have hq := whob_f hc
        clear hc HB HD HR
        generalize hx : ((s[i].toNat : Nat) : Int) = x at hq h8
        have HX := Lib.hid hx
        rcases hq with h | ⟨h, h2, h3⟩ | h
        · have a1 : ¬ (97 : Int) ≤ x := by omega
          have a3 : ¬ (48 : Int) ≤ x := by omega
          have a5 : ¬ x = 95 := by omega
          rw [← hx] at a1 a3 a5
          have a6 : (!(((s[i].toNat : Nat) : Int) == 95)) = true := by simpa using a5
          clear hx h HX a5
          go_wp2_with fail
          go_ret
          exact ⟨ret_bool HF.out.symm, B.out⟩
        · have a1 : ¬ (97 : Int) ≤ x := by omega
          have a3 : (48 : Int) ≤ x := by omega
          have a4 : ¬ x ≤ 57 := by omega
          rw [← hx] at a1 a3 a4 h3
          have a6 : (!(((s[i].toNat : Nat) : Int) == 95)) = true := by simpa using h3
          clear hx h HX h3 h2
          go_wp2_with fail
          go_ret
          exact ⟨ret_bool HF.out.symm, B.out⟩
        · have a1 : (97 : Int) ≤ x := by omega
          have a2 : ¬ x ≤ 122 := by omega
          have a3 : (48 : Int) ≤ x := by omega
          have a4 : ¬ x ≤ 57 := by omega
          have a5 : ¬ x = 95 := by omega
          rw [← hx] at a1 a2 a3 a4 a5
          have a6 : (!(((s[i].toNat : Nat) : Int) == 95)) = true := by simpa using a5
          clear hx h HX a5
          go_wp2_with fail
          go_ret
          exact ⟨ret_bool HF.out.symm, B.out⟩
      | true =>
        have HS := Lib.hid (HR.out.step hlt hc)
        have hq := whob_t hc
        clear hc HB HD HR
        by_cases a1 : (97 : Int) ≤ ((s[i].toNat : Nat) : Int)
        · have a2 : ((s[i].toNat : Nat) : Int) ≤ 122 := by omega
          clear hq
          go_wp2_with fail
          go_roundw
          case rel => exact ⟨i + 1, by go_num, by omega, HS.out, B.out⟩
          case measure => simp [intOf]; omega
        · by_cases a4 : ((s[i].toNat : Nat) : Int) ≤ 57
          · have a3 : (48 : Int) ≤ ((s[i].toNat : Nat) : Int) := by omega
            clear hq
            go_wp2_with fail
            go_roundw
            case rel => exact ⟨i + 1, by go_num, by omega, HS.out, B.out⟩
            case measure => simp [intOf]; omega
          · have a3 : (48 : Int) ≤ ((s[i].toNat : Nat) : Int) := by omega
            have a5 : ((s[i].toNat : Nat) : Int) = 95 := by omega
            clear hq
            go_wp2_with fail
            go_roundw
            case rel => exact ⟨i + 1, by go_num, by omega, HS.out, B.out⟩
            case measure => simp [intOf]; omega
    · obtain rfl : i = s.size := by omega
      have hlt2 : ¬ (s.size : Int) < (s.size : Int) := by omega
      have HF : Hid (r = true) := Lib.hid (HD.out HR.out hz3)
      go_wp2_with fail
      go_ret
      exact ⟨ret_bool HF.out.symm, B.out⟩
theorem symLinkOk_impl (s : ByteArray) (w : World) (hs : s.size ≤ 4194304) :
    Calls Tryz.prog 175 #[.string s] w fun e w' => e = .returned (.bool (inB s.size 1 150 && signv s)) ∧ Below w.heap.size w w' := by
  have H1 := Lib.hid (fun w => visible_impl s w (by omega))
  generalize signv s = r at H1
  by_cases hz : (1 : Int) ≤ (s.size : Int)
  · by_cases hz2 : (s.size : Int) ≤ 150
    · have hq : inB (s.size : Int) 1 150 = true := inB_t (by omega)
      rw [hq, Bool.true_and]
      clear hq
      go_enter Tryz.func175, Tryz.ntmps175
      go_wp2_with fail
      refine (H1.out _).mono ?_
      rintro e _ ⟨rfl, rfl⟩
      go_wp2_with fail
      go_ret
      exact ⟨rfl, Below.refl _ _⟩
    · have hq : inB (s.size : Int) 1 150 = false := inB_f (by omega)
      rw [hq]
      go_enter Tryz.func175, Tryz.ntmps175
      go_wp2_with fail
      go_ret
      exact ⟨rfl, Below.refl _ _⟩
  · have hq : inB (s.size : Int) 1 150 = false := inB_f (by omega)
    rw [hq]
    go_enter Tryz.func175, Tryz.ntmps175
    go_wp2_with fail
    go_ret
    exact ⟨rfl, Below.refl _ _⟩
end Go.Proofs.YtcnmbolmgifgfabGreatDoor

/- Contract of impl.EntryOk: the four kinds and what they share. -/
namespace Go.Proofs.YtcnmbolmgifgfabGreatDoor
open Go.ChangeShapes Go.WideShapes Go.ChangeAt Go.RowKit Go.Deep

/-- What all kinds ask. -/
def fieldsv (e : Ent) : Bool := pathOkv e.path && inB e.mode 0 4095 && inB e.uid 0 4294967295 && inB e.gid 0 4294967295 && inB e.time 0 99999999999 && whov e.user && whov e.group
set_option maxHeartbeats 3200000 in
theorem fieldsOk_impl (k : Int) (p l : ByteArray) (m u g t : Int) (us gr b : ByteArray) (w : World) (hp : p.size ≤ 4194304) (hus : us.size ≤ 4194304) (hgr : gr.size ≤ 4194304) :
    Calls Tryz.prog 174 #[.agg #[.int .i64 k, .string p, .string l, .int .i64 m, .int .i64 u, .int .i64 g, .int .i64 t, .string us, .string gr, .string b]] w fun e w' => e = .returned (.bool (fieldsv ⟨k, p, l, m, u, g, t, us, gr, b⟩)) ∧ Below w.heap.size w w' := by
  have H1 := Lib.hid (fun w => pathOk_impl p w (by omega))
  have H2 := Lib.hid (fun w => upTo_any m 4095 w)
  have H3 := Lib.hid (fun w => upTo_any u 4294967295 w)
  have H4 := Lib.hid (fun w => upTo_any g 4294967295 w)
  have H5 := Lib.hid (fun w => upTo_any t 99999999999 w)
  have H6 := Lib.hid (fun w => userOk_impl us w hus)
  have H7 := Lib.hid (fun w => userOk_impl gr w hgr)
  have HE : Hid (fieldsv ⟨k, p, l, m, u, g, t, us, gr, b⟩ = (pathOkv p && inB m 0 4095 && inB u 0 4294967295 && inB g 0 4294967295 && inB t 0 99999999999 && whov us && whov gr)) := Lib.hid rfl
  generalize fieldsv ⟨k, p, l, m, u, g, t, us, gr, b⟩ = r at HE
  generalize pathOkv p = b1 at H1 HE
  generalize inB m 0 4095 = b2 at H2 HE
  generalize inB u 0 4294967295 = b3 at H3 HE
  generalize inB g 0 4294967295 = b4 at H4 HE
  generalize inB t 0 99999999999 = b5 at H5 HE
  generalize whov us = b6 at H6 HE
  generalize whov gr = b7 at H7 HE
  clear hp hus hgr
  go_enter Tryz.func174, Tryz.ntmps174
  go_wp2_with fail
  refine (H1.out _).mono ?_
  rintro e w1 ⟨rfl, hb⟩
  obtain ⟨k1, bb, z1⟩ := one_new (e1 := ⟨k, p, l, m, u, g, t, us, gr, b⟩) hb
  have E := Lib.hid k1
  have B := Lib.hid bb
  clear hb k1 bb
  obtain ⟨c0, c1, c2, c3, c4, c5, c6, c7, c8, c9⟩ := E.out.zero
  cases b1 with
  | false =>
    go_wp2_with fail
    go_ret
    exact ⟨ret_bool (by rw [HE.out]; simp), B.out⟩
  | true =>
    go_wp2_with fail
    refine (H2.out _).mono ?_
    rintro e _ ⟨rfl, rfl⟩
    cases b2 with
    | false =>
      go_wp2_with fail
      go_ret
      exact ⟨ret_bool (by rw [HE.out]; simp), B.out⟩
    | true =>
      go_wp2_with fail
      refine (H3.out _).mono ?_
      rintro e _ ⟨rfl, rfl⟩
      cases b3 with
      | false =>
        go_wp2_with fail
        go_ret
        exact ⟨ret_bool (by rw [HE.out]; simp), B.out⟩
      | true =>
        go_wp2_with fail
        refine (H4.out _).mono ?_
        rintro e _ ⟨rfl, rfl⟩
        cases b4 with
        | false =>
          go_wp2_with fail
          go_ret
          exact ⟨ret_bool (by rw [HE.out]; simp), B.out⟩
        | true =>
          go_wp2_with fail
          refine (H5.out _).mono ?_
          rintro e _ ⟨rfl, rfl⟩
          cases b5 with
          | false =>
            go_wp2_with fail
            go_ret
            exact ⟨ret_bool (by rw [HE.out]; simp), B.out⟩
          | true =>
            go_wp2_with fail
            refine (H6.out _).mono ?_
            rintro e w6 ⟨rfl, hb⟩
            replace E := Lib.hid (E.out.below hb (by omega))
            replace B := Lib.hid (btE B.out hb)
            replace z1 := Nat.le_trans z1 hb.size
            clear hb c0 c1 c2 c3 c4 c5 c6 c7 c8 c9
            obtain ⟨c0, c1, c2, c3, c4, c5, c6, c7, c8, c9⟩ := E.out.zero
            cases b6 with
            | false =>
              go_wp2_with fail
              go_ret
              exact ⟨ret_bool (by rw [HE.out]; simp), B.out⟩
            | true =>
              go_wp2_with fail
              refine (H7.out _).mono ?_
              rintro e w7 ⟨rfl, hb⟩
              replace E := Lib.hid (E.out.below hb (by omega))
              replace B := Lib.hid (btE B.out hb)
              replace z1 := Nat.le_trans z1 hb.size
              clear hb c0 c1 c2 c3 c4 c5 c6 c7 c8 c9
              obtain ⟨c0, c1, c2, c3, c4, c5, c6, c7, c8, c9⟩ := E.out.zero
              cases b7 with
              | false =>
                go_wp2_with fail
                go_ret
                exact ⟨ret_bool (by rw [HE.out]; simp), B.out⟩
              | true =>
                go_wp2_with fail
                go_ret
                exact ⟨ret_bool (by rw [HE.out]; simp), B.out⟩
set_option maxHeartbeats 3200000 in
theorem fileOk_impl (k : Int) (p l : ByteArray) (m u g t : Int) (us gr b : ByteArray) (w : World) (hp : p.size ≤ 4194304) (hus : us.size ≤ 4194304) (hgr : gr.size ≤ 4194304) :
    Calls Tryz.prog 135 #[.agg #[.int .i64 k, .string p, .string l, .int .i64 m, .int .i64 u, .int .i64 g, .int .i64 t, .string us, .string gr, .string b]] w fun e w' => e = .returned (.bool (fieldsv ⟨k, p, l, m, u, g, t, us, gr, b⟩ && (decide (l.size = 0) && decide (b.size ≤ 3000)))) ∧ Below w.heap.size w w' := by
  have H1 := Lib.hid (fun w => fieldsOk_impl k p l m u g t us gr b w hp hus hgr)
  generalize fieldsv ⟨k, p, l, m, u, g, t, us, gr, b⟩ = b1 at H1 ⊢
  go_enter Tryz.func135, Tryz.ntmps135
  go_wp2_with fail
  refine (H1.out _).mono ?_
  rintro e w1 ⟨rfl, hb⟩
  obtain ⟨k1, bb, z1⟩ := one_new (e1 := ⟨k, p, l, m, u, g, t, us, gr, b⟩) hb
  have E := Lib.hid k1
  have B := Lib.hid bb
  clear hb k1 bb
  obtain ⟨c0, c1, c2, c3, c4, c5, c6, c7, c8, c9⟩ := E.out.zero
  cases b1 with
  | false =>
    go_wp2_with fail
    go_ret
    exact ⟨ret_bool (by simp), B.out⟩
  | true =>
    by_cases ql : l.size = 0
    · have ql2 := empty_t ql
      by_cases qb : b.size ≤ 3000
      · have qb2 : (b.size : Int) ≤ 3000 := by omega
        go_wp2_with fail
        go_ret
        exact ⟨ret_bool (by simp [ql, qb]), B.out⟩
      · have qb2 : ¬ (b.size : Int) ≤ 3000 := by omega
        go_wp2_with fail
        go_ret
        exact ⟨ret_bool (by rw [decide_eq_false qb]; simp; try omega), B.out⟩
    · have ql2 := empty_f ql
      go_wp2_with fail
      go_ret
      exact ⟨ret_bool (by simp [ql]), B.out⟩
set_option maxHeartbeats 3200000 in
theorem dirOk_impl (k : Int) (p l : ByteArray) (m u g t : Int) (us gr b : ByteArray) (w : World) (hp : p.size ≤ 4194304) (hus : us.size ≤ 4194304) (hgr : gr.size ≤ 4194304) :
    Calls Tryz.prog 136 #[.agg #[.int .i64 k, .string p, .string l, .int .i64 m, .int .i64 u, .int .i64 g, .int .i64 t, .string us, .string gr, .string b]] w fun e w' => e = .returned (.bool (fieldsv ⟨k, p, l, m, u, g, t, us, gr, b⟩ && (decide (l.size = 0) && decide (b.size = 0)))) ∧ Below w.heap.size w w' := by
  have H1 := Lib.hid (fun w => fieldsOk_impl k p l m u g t us gr b w hp hus hgr)
  generalize fieldsv ⟨k, p, l, m, u, g, t, us, gr, b⟩ = b1 at H1 ⊢
  go_enter Tryz.func136, Tryz.ntmps136
  go_wp2_with fail
  refine (H1.out _).mono ?_
  rintro e w1 ⟨rfl, hb⟩
  obtain ⟨k1, bb, z1⟩ := one_new (e1 := ⟨k, p, l, m, u, g, t, us, gr, b⟩) hb
  have E := Lib.hid k1
  have B := Lib.hid bb
  clear hb k1 bb
  obtain ⟨c0, c1, c2, c3, c4, c5, c6, c7, c8, c9⟩ := E.out.zero
  cases b1 with
  | false =>
    go_wp2_with fail
    go_ret
    exact ⟨ret_bool (by simp), B.out⟩
  | true =>
    by_cases ql : l.size = 0
    · have ql2 := empty_t ql
      by_cases qb : b.size = 0
      · have qb2 := empty_t qb
        go_wp2_with fail
        go_ret
        exact ⟨ret_bool (by simp [ql, qb]), B.out⟩
      · have qb2 := empty_f qb
        go_wp2_with fail
        go_ret
        exact ⟨ret_bool (by simp [qb]), B.out⟩
    · have ql2 := empty_f ql
      go_wp2_with fail
      go_ret
      exact ⟨ret_bool (by simp [ql]), B.out⟩
set_option maxHeartbeats 3200000 in
theorem symOk_impl (k : Int) (p l : ByteArray) (m u g t : Int) (us gr b : ByteArray) (w : World) (hp : p.size ≤ 4194304) (hl : l.size ≤ 4194304) (hus : us.size ≤ 4194304) (hgr : gr.size ≤ 4194304) :
    Calls Tryz.prog 137 #[.agg #[.int .i64 k, .string p, .string l, .int .i64 m, .int .i64 u, .int .i64 g, .int .i64 t, .string us, .string gr, .string b]] w fun e w' => e = .returned (.bool (fieldsv ⟨k, p, l, m, u, g, t, us, gr, b⟩ && (inB l.size 1 150 && signv l && decide (b.size = 0)))) ∧ Below w.heap.size w w' := by
  have H1 := Lib.hid (fun w => fieldsOk_impl k p l m u g t us gr b w hp hus hgr)
  have H2 := Lib.hid (fun w => symLinkOk_impl l w hl)
  generalize (inB (l.size : Int) 1 150 && signv l) = b2 at H2 ⊢
  generalize fieldsv ⟨k, p, l, m, u, g, t, us, gr, b⟩ = b1 at H1 ⊢
  go_enter Tryz.func137, Tryz.ntmps137
  go_wp2_with fail
  refine (H1.out _).mono ?_
  rintro e w1 ⟨rfl, hb⟩
  obtain ⟨k1, bb, z1⟩ := one_new (e1 := ⟨k, p, l, m, u, g, t, us, gr, b⟩) hb
  have E := Lib.hid k1
  have B := Lib.hid bb
  clear hb k1 bb
  obtain ⟨c0, c1, c2, c3, c4, c5, c6, c7, c8, c9⟩ := E.out.zero
  cases b1 with
  | false =>
    go_wp2_with fail
    go_ret
    exact ⟨ret_bool (by simp), B.out⟩
  | true =>
    go_wp2_with fail
    refine (H2.out _).mono ?_
    rintro e w2 ⟨rfl, hb⟩
    replace E := Lib.hid (E.out.below hb (by omega))
    replace B := Lib.hid (btE B.out hb)
    replace z1 := Nat.le_trans z1 hb.size
    clear hb c0 c1 c2 c3 c4 c5 c6 c7 c8 c9
    obtain ⟨c0, c1, c2, c3, c4, c5, c6, c7, c8, c9⟩ := E.out.zero
    cases b2 with
    | false =>
      go_wp2_with fail
      go_ret
      exact ⟨ret_bool (by simp), B.out⟩
    | true =>
      by_cases qb : b.size = 0
      · have qb2 := empty_t qb
        go_wp2_with fail
        go_ret
        exact ⟨ret_bool (by simp [qb]), B.out⟩
      · have qb2 := empty_f qb
        go_wp2_with fail
        go_ret
        exact ⟨ret_bool (by simp [qb]), B.out⟩
set_option maxHeartbeats 3200000 in
theorem hardOk_impl (k : Int) (p l : ByteArray) (m u g t : Int) (us gr b : ByteArray) (w : World) (hp : p.size ≤ 4194304) (hl : l.size ≤ 4194304) (hus : us.size ≤ 4194304) (hgr : gr.size ≤ 4194304) :
    Calls Tryz.prog 138 #[.agg #[.int .i64 k, .string p, .string l, .int .i64 m, .int .i64 u, .int .i64 g, .int .i64 t, .string us, .string gr, .string b]] w fun e w' => e = .returned (.bool (fieldsv ⟨k, p, l, m, u, g, t, us, gr, b⟩ && (pathOkv l && decide (l ≠ p) && decide (b.size = 0)))) ∧ Below w.heap.size w w' := by
  have H1 := Lib.hid (fun w => fieldsOk_impl k p l m u g t us gr b w hp hus hgr)
  have H2 := Lib.hid (fun w => pathOk_impl l w (by omega))
  generalize pathOkv l = b2 at H2 ⊢
  generalize fieldsv ⟨k, p, l, m, u, g, t, us, gr, b⟩ = b1 at H1 ⊢
  go_enter Tryz.func138, Tryz.ntmps138
  go_wp2_with fail
  refine (H1.out _).mono ?_
  rintro e w1 ⟨rfl, hb⟩
  obtain ⟨k1, bb, z1⟩ := one_new (e1 := ⟨k, p, l, m, u, g, t, us, gr, b⟩) hb
  have E := Lib.hid k1
  have B := Lib.hid bb
  clear hb k1 bb
  obtain ⟨c0, c1, c2, c3, c4, c5, c6, c7, c8, c9⟩ := E.out.zero
  cases b1 with
  | false =>
    go_wp2_with fail
    go_ret
    exact ⟨ret_bool (by simp), B.out⟩
  | true =>
    go_wp2_with fail
    refine (H2.out _).mono ?_
    rintro e w2 ⟨rfl, hb⟩
    replace E := Lib.hid (E.out.below hb (by omega))
    replace B := Lib.hid (btE B.out hb)
    replace z1 := Nat.le_trans z1 hb.size
    clear hb c0 c1 c2 c3 c4 c5 c6 c7 c8 c9
    obtain ⟨c0, c1, c2, c3, c4, c5, c6, c7, c8, c9⟩ := E.out.zero
    cases b2 with
    | false =>
      go_wp2_with fail
      go_ret
      exact ⟨ret_bool (by simp), B.out⟩
    | true =>
      by_cases ql : l = p
      · have ql2 := baE_eq ql
        go_wp2_with fail
        go_ret
        exact ⟨ret_bool (by simp [ql]), B.out⟩
      · have ql2 := baE_ne ql
        by_cases qb : b.size = 0
        · have qb2 := empty_t qb
          go_wp2_with fail
          go_ret
          exact ⟨ret_bool (by simp [ql, qb]), B.out⟩
        · have qb2 := empty_f qb
          go_wp2_with fail
          go_ret
          exact ⟨ret_bool (by simp [qb]), B.out⟩
theorem entOkv_eq (e : Ent) : entOkv e = (fieldsv e && kindOk e.kind e.path e.link e.body) := rfl
set_option maxHeartbeats 3200000 in
theorem entryOk_impl (k : Int) (p l : ByteArray) (m u g t : Int) (us gr b : ByteArray) (w : World) (hp : p.size ≤ 4194304) (hl : l.size ≤ 4194304) (hus : us.size ≤ 4194304) (hgr : gr.size ≤ 4194304) :
    Calls Tryz.prog 88 #[.agg #[.int .i64 k, .string p, .string l, .int .i64 m, .int .i64 u, .int .i64 g, .int .i64 t, .string us, .string gr, .string b]] w fun e w' => e = .returned (.bool (entOkv ⟨k, p, l, m, u, g, t, us, gr, b⟩)) ∧ Below w.heap.size w w' := by
  have H0 := Lib.hid (fun w => fileOk_impl k p l m u g t us gr b w hp hus hgr)
  have H1 := Lib.hid (fun w => dirOk_impl k p l m u g t us gr b w hp hus hgr)
  have H2 := Lib.hid (fun w => symOk_impl k p l m u g t us gr b w hp hl hus hgr)
  have H3 := Lib.hid (fun w => hardOk_impl k p l m u g t us gr b w hp hl hus hgr)
  have HE : Hid (entOkv ⟨k, p, l, m, u, g, t, us, gr, b⟩ = (fieldsv ⟨k, p, l, m, u, g, t, us, gr, b⟩ && kindOk k p l b)) := Lib.hid rfl
  have HK : Hid (kindOk k p l b = if k = 0 then decide (l.size = 0) && decide (b.size ≤ 3000) else if k = 1 then decide (l.size = 0) && decide (b.size = 0) else if k = 2 then inB l.size 1 150 && signv l && decide (b.size = 0) else if k = 3 then pathOkv l && decide (l ≠ p) && decide (b.size = 0) else false) := Lib.hid rfl
  generalize hk0 : (decide (l.size = 0) && decide (b.size ≤ 3000)) = r0 at H0 HK
  generalize hk1 : (decide (l.size = 0) && decide (b.size = 0)) = r1 at H1 HK
  generalize hk2 : (inB (l.size : Int) 1 150 && signv l && decide (b.size = 0)) = r2 at H2 HK
  generalize hk3 : (pathOkv l && decide (l ≠ p) && decide (b.size = 0)) = r3 at H3 HK
  clear hk0 hk1 hk2 hk3
  generalize kindOk k p l b = rk at HE HK
  generalize entOkv ⟨k, p, l, m, u, g, t, us, gr, b⟩ = r at HE
  generalize fieldsv ⟨k, p, l, m, u, g, t, us, gr, b⟩ = b1 at HE H0 H1 H2 H3
  clear hp hl hus hgr
  by_cases q0 : k = 0
  · have HF : Hid (r = (b1 && r0)) := Lib.hid (by rw [HE.out, HK.out]; simp [q0])
    subst q0
    clear HE HK
    go_enter Tryz.func88, Tryz.ntmps88
    go_wp2_with fail
    refine (H0.out _).mono ?_
    rintro e w1 ⟨rfl, hb⟩
    go_wp2_with fail
    go_ret
    exact ⟨ret_bool HF.out.symm, (((Below.refl _ w).alloc (Nat.le_refl _) _).alloc (by simp) _).trans (hb.mono (by simp; omega))⟩
  by_cases q1 : k = 1
  · have HF : Hid (r = (b1 && r1)) := Lib.hid (by rw [HE.out, HK.out]; simp [q1])
    subst q1
    clear HE HK
    go_enter Tryz.func88, Tryz.ntmps88
    go_wp2_with fail
    refine (H1.out _).mono ?_
    rintro e w1 ⟨rfl, hb⟩
    go_wp2_with fail
    go_ret
    exact ⟨ret_bool HF.out.symm, (((Below.refl _ w).alloc (Nat.le_refl _) _).alloc (by simp) _).trans (hb.mono (by simp; omega))⟩
  by_cases q2 : k = 2
  · have HF : Hid (r = (b1 && r2)) := Lib.hid (by rw [HE.out, HK.out]; simp [q2])
    subst q2
    clear HE HK
    go_enter Tryz.func88, Tryz.ntmps88
    go_wp2_with fail
    refine (H2.out _).mono ?_
    rintro e w1 ⟨rfl, hb⟩
    go_wp2_with fail
    go_ret
    exact ⟨ret_bool HF.out.symm, (((Below.refl _ w).alloc (Nat.le_refl _) _).alloc (by simp) _).trans (hb.mono (by simp; omega))⟩
  by_cases q3 : k = 3
  · have HF : Hid (r = (b1 && r3)) := Lib.hid (by rw [HE.out, HK.out]; simp [q3])
    subst q3
    clear HE HK
    go_enter Tryz.func88, Tryz.ntmps88
    go_wp2_with fail
    refine (H3.out _).mono ?_
    rintro e w1 ⟨rfl, hb⟩
    go_wp2_with fail
    go_ret
    exact ⟨ret_bool HF.out.symm, (((Below.refl _ w).alloc (Nat.le_refl _) _).alloc (by simp) _).trans (hb.mono (by simp; omega))⟩
  have HF : Hid (r = false) := Lib.hid (by rw [HE.out, HK.out, if_neg q0, if_neg q1, if_neg q2, if_neg q3]; simp)
  clear HE HK
  go_enter Tryz.func88, Tryz.ntmps88
  go_wp2_with fail
  go_ret
  exact ⟨ret_bool HF.out.symm, ((Below.refl _ w).alloc (Nat.le_refl _) _).alloc (by simp) _⟩
end Go.Proofs.YtcnmbolmgifgfabGreatDoor

/- Contract of impl.cpioFits: what all cpio formats ask of an entry. -/
namespace Go.Proofs.YtcnmbolmgifgfabGreatDoor
open Go.ChangeShapes Go.WideShapes Go.ChangeAt Go.RowKit Go.Deep

def isTrail (p : ByteArray) : Bool := p.toList == [84, 82, 65, 73, 76, 69, 82, 33, 33, 33]
def cpioF (e : Ent) : Bool := entOkv e && !isTrail e.path && e.user.toList.isEmpty && e.group.toList.isEmpty
set_option maxHeartbeats 3200000 in
theorem cpioF_impl (k : Int) (p l : ByteArray) (m u g t : Int) (us gr b : ByteArray) (w : World) (hp : p.size ≤ 4194304) (hl : l.size ≤ 4194304) (hus : us.size ≤ 4194304) (hgr : gr.size ≤ 4194304) :
    Calls Tryz.prog 96 #[.agg #[.int .i64 k, .string p, .string l, .int .i64 m, .int .i64 u, .int .i64 g, .int .i64 t, .string us, .string gr, .string b]] w fun e w' => e = .returned (.bool (cpioF ⟨k, p, l, m, u, g, t, us, gr, b⟩)) ∧ Below w.heap.size w w' := by
  have H2 := Lib.hid (fun w => entryOk_impl k p l m u g t us gr b w hp hl hus hgr)
  have HE : Hid (cpioF ⟨k, p, l, m, u, g, t, us, gr, b⟩ = (entOkv ⟨k, p, l, m, u, g, t, us, gr, b⟩ && !(p.toList == [84, 82, 65, 73, 76, 69, 82, 33, 33, 33]) && us.toList.isEmpty && gr.toList.isEmpty)) := Lib.hid rfl
  generalize cpioF ⟨k, p, l, m, u, g, t, us, gr, b⟩ = r at HE
  generalize entOkv ⟨k, p, l, m, u, g, t, us, gr, b⟩ = b1 at H2 HE
  clear hp hus hgr hl
  go_enter Tryz.func96, Tryz.ntmps96
  go_wp2_with fail
  refine (H2.out _).mono ?_
  rintro e w1 ⟨rfl, hb⟩
  obtain ⟨k1, bb1, z1⟩ := one_new (e1 := ⟨k, p, l, m, u, g, t, us, gr, b⟩) hb
  have E1 := Lib.hid k1
  have B1 := Lib.hid bb1
  clear hb k1 bb1
  obtain ⟨c0, c1, c2, c3, c4, c5, c6, c7, c8, c9⟩ := E1.out.zero
  cases b1 with
  | false =>
    go_wp2_with fail
    go_ret
    exact ⟨ret_bool (by rw [HE.out]; simp []), B1.out⟩
  | true =>
    cases q1 : (p.toList == [84, 82, 65, 73, 76, 69, 82, 33, 33, 33]) with
    | true =>
      have HE2 : Hid (r = false) := Lib.hid (by rw [HE.out, q1]; simp)
      clear HE
      go_wp2_with fail
      go_ret
      exact ⟨ret_bool HE2.out.symm, B1.out⟩
    | false =>
      cases q2 : us.toList.isEmpty with
      | false =>
        have HE2 : Hid (r = false) := Lib.hid (by rw [HE.out, q2]; simp)
        clear HE
        go_wp2_with fail
        go_ret
        exact ⟨ret_bool HE2.out.symm, B1.out⟩
      | true =>
        have HE2 : Hid (r = gr.toList.isEmpty) := Lib.hid (by rw [HE.out, q1, q2]; simp)
        clear HE
        go_wp2_with fail
        go_ret
        exact ⟨ret_bool HE2.out.symm, B1.out⟩
end Go.Proofs.YtcnmbolmgifgfabGreatDoor

/- Contracts of spec.OdcFits and impl.OdcFits. -/
namespace Go.Proofs.YtcnmbolmgifgfabGreatDoor
open Go.ChangeShapes Go.WideShapes Go.ChangeAt Go.RowKit Go.Deep

def odcFits (e : Ent) : Bool := entOkv e && !isTrail e.path && e.user.toList.isEmpty && e.group.toList.isEmpty && decide (e.uid ≤ 262143) && decide (e.gid ≤ 262143) && decide (e.time ≤ 8589934591)
theorem odcFits_cpio (e : Ent) : odcFits e = (cpioF e && decide (e.uid ≤ 262143) && decide (e.gid ≤ 262143) && decide (e.time ≤ 8589934591)) := rfl
set_option maxHeartbeats 3200000 in
theorem odcFits_spec (k : Int) (p l : ByteArray) (m u g t : Int) (us gr b : ByteArray) (w : World) (hp : p.size ≤ 4194304) (hl : l.size ≤ 4194304) (hus : us.size ≤ 4194304) (hgr : gr.size ≤ 4194304) (hbz : b.size ≤ 4194304) :
    Calls Tryz.prog 33 #[.agg #[.int .i64 k, .string p, .string l, .int .i64 m, .int .i64 u, .int .i64 g, .int .i64 t, .string us, .string gr, .string b]] w fun e w' => e = .returned (.bool (odcFits ⟨k, p, l, m, u, g, t, us, gr, b⟩)) ∧ Below w.heap.size w w' := by
  have H2 := Lib.hid (fun w => entryOk_spec k p l m u g t us gr b w hp hl hus hgr hbz)
  have HE : Hid (odcFits ⟨k, p, l, m, u, g, t, us, gr, b⟩ = (entOkv ⟨k, p, l, m, u, g, t, us, gr, b⟩ && !(p.toList == [84, 82, 65, 73, 76, 69, 82, 33, 33, 33]) && us.toList.isEmpty && gr.toList.isEmpty && decide (u ≤ 262143) && decide (g ≤ 262143) && decide (t ≤ 8589934591))) := Lib.hid rfl
  generalize odcFits ⟨k, p, l, m, u, g, t, us, gr, b⟩ = r at HE
  generalize entOkv ⟨k, p, l, m, u, g, t, us, gr, b⟩ = b1 at H2 HE
  clear hp hus hgr hl hbz
  go_enter Tryz.func33, Tryz.ntmps33
  go_wp2_with fail
  refine (H2.out _).mono ?_
  rintro e w1 ⟨rfl, hb⟩
  obtain ⟨k1, bb1, z1⟩ := one_new (e1 := ⟨k, p, l, m, u, g, t, us, gr, b⟩) hb
  have E1 := Lib.hid k1
  have B1 := Lib.hid bb1
  clear hb k1 bb1
  obtain ⟨c0, c1, c2, c3, c4, c5, c6, c7, c8, c9⟩ := E1.out.zero
  cases b1 with
  | false =>
    go_wp2_with fail
    go_ret
    exact ⟨ret_bool (by rw [HE.out]; simp []), B1.out⟩
  | true =>
    cases q1 : (p.toList == [84, 82, 65, 73, 76, 69, 82, 33, 33, 33]) with
    | true =>
      have HE2 : Hid (r = false) := Lib.hid (by rw [HE.out, q1]; simp)
      clear HE
      go_wp2_with fail
      go_ret
      exact ⟨ret_bool HE2.out.symm, B1.out⟩
    | false =>
      cases q2 : us.toList.isEmpty with
      | false =>
        have HE2 : Hid (r = false) := Lib.hid (by rw [HE.out, q2]; simp)
        clear HE
        go_wp2_with fail
        go_ret
        exact ⟨ret_bool HE2.out.symm, B1.out⟩
      | true =>
        cases q3 : gr.toList.isEmpty with
        | false =>
          have HE2 : Hid (r = false) := Lib.hid (by rw [HE.out, q3]; simp)
          clear HE
          go_wp2_with fail
          go_ret
          exact ⟨ret_bool HE2.out.symm, B1.out⟩
        | true =>
          by_cases q4 : u ≤ 262143
          · by_cases q5 : g ≤ 262143
            · by_cases q6 : t ≤ 8589934591
              · have HE2 : Hid (r = true) := Lib.hid (by rw [HE.out, q1, q2, q3, decide_eq_true q4, decide_eq_true q5, decide_eq_true q6]; rfl)
                clear HE
                go_wp2_with fail
                go_ret
                exact ⟨ret_bool HE2.out.symm, B1.out⟩
              · have HE2 : Hid (r = false) := Lib.hid (by rw [HE.out, decide_eq_false q6]; simp)
                clear HE
                go_wp2_with fail
                go_ret
                exact ⟨ret_bool ((decide_eq_false (show ¬ t ≤ 8589934591 by omega)).trans HE2.out.symm), B1.out⟩
            · have HE2 : Hid (r = false) := Lib.hid (by rw [HE.out, decide_eq_false q5]; simp)
              clear HE
              go_wp2_with fail
              go_ret
              exact ⟨ret_bool HE2.out.symm, B1.out⟩
          · have HE2 : Hid (r = false) := Lib.hid (by rw [HE.out, decide_eq_false q4]; simp)
            clear HE
            go_wp2_with fail
            go_ret
            exact ⟨ret_bool HE2.out.symm, B1.out⟩
set_option maxHeartbeats 3200000 in
theorem odcFits_impl (k : Int) (p l : ByteArray) (m u g t : Int) (us gr b : ByteArray) (w : World) (hp : p.size ≤ 4194304) (hl : l.size ≤ 4194304) (hus : us.size ≤ 4194304) (hgr : gr.size ≤ 4194304) :
    Calls Tryz.prog 64 #[.agg #[.int .i64 k, .string p, .string l, .int .i64 m, .int .i64 u, .int .i64 g, .int .i64 t, .string us, .string gr, .string b]] w fun e w' => e = .returned (.bool (odcFits ⟨k, p, l, m, u, g, t, us, gr, b⟩)) ∧ Below w.heap.size w w' := by
  have H2 := Lib.hid (fun w => cpioF_impl k p l m u g t us gr b w hp hl hus hgr)
  have HE : Hid (odcFits ⟨k, p, l, m, u, g, t, us, gr, b⟩ = (cpioF ⟨k, p, l, m, u, g, t, us, gr, b⟩ && decide (u ≤ 262143) && decide (g ≤ 262143) && decide (t ≤ 8589934591))) := Lib.hid rfl
  generalize odcFits ⟨k, p, l, m, u, g, t, us, gr, b⟩ = r at HE
  generalize cpioF ⟨k, p, l, m, u, g, t, us, gr, b⟩ = b1 at H2 HE
  clear hp hus hgr hl
  go_enter Tryz.func64, Tryz.ntmps64
  go_wp2_with fail
  refine (H2.out _).mono ?_
  rintro e w1 ⟨rfl, hb⟩
  obtain ⟨k1, bb1, z1⟩ := one_new (e1 := ⟨k, p, l, m, u, g, t, us, gr, b⟩) hb
  have E1 := Lib.hid k1
  have B1 := Lib.hid bb1
  clear hb k1 bb1
  obtain ⟨c0, c1, c2, c3, c4, c5, c6, c7, c8, c9⟩ := E1.out.zero
  cases b1 with
  | false =>
    go_wp2_with fail
    go_ret
    exact ⟨ret_bool (by rw [HE.out]; simp []), B1.out⟩
  | true =>
    by_cases q4 : u ≤ 262143
    · by_cases q5 : g ≤ 262143
      · by_cases q6 : t ≤ 8589934591
        · have HE2 : Hid (r = true) := Lib.hid (by rw [HE.out, decide_eq_true q4, decide_eq_true q5, decide_eq_true q6]; rfl)
          clear HE
          go_wp2_with fail
          go_ret
          exact ⟨ret_bool HE2.out.symm, B1.out⟩
        · have HE2 : Hid (r = false) := Lib.hid (by rw [HE.out, decide_eq_false q6]; simp)
          clear HE
          go_wp2_with fail
          go_ret
          exact ⟨ret_bool ((decide_eq_false (show ¬ t ≤ 8589934591 by omega)).trans HE2.out.symm), B1.out⟩
      · have HE2 : Hid (r = false) := Lib.hid (by rw [HE.out, decide_eq_false q5]; simp)
        clear HE
        go_wp2_with fail
        go_ret
        exact ⟨ret_bool HE2.out.symm, B1.out⟩
    · have HE2 : Hid (r = false) := Lib.hid (by rw [HE.out, decide_eq_false q4]; simp)
      clear HE
      go_wp2_with fail
      go_ret
      exact ⟨ret_bool HE2.out.symm, B1.out⟩
end Go.Proofs.YtcnmbolmgifgfabGreatDoor

/- The text of a list in octal cards; contract of spec.PutOdc. -/
namespace Go.Proofs.YtcnmbolmgifgfabGreatDoor
open Go.ChangeShapes Go.WideShapes Go.ChangeAt Go.RowKit Go.Deep

def lastC : Card := ⟨0, 0, 0, 0, 1, 0, ⟨#[84, 82, 65, 73, 76, 69, 82, 33, 33, 33]⟩, ⟨#[]⟩⟩
def odcT (Q : List Card) : Nat → ByteArray
  | 0 => ⟨#[]⟩
  | n + 1 => odcT Q n ++ cardTextv (Q.getD n zeroCd)
def putOdcB (L : List Ent) : Bool := listOkv L && L.all odcFits
def putOdcT (L : List Ent) : ByteArray := if putOdcB L then odcT (cardsv L) L.length ++ cardTextv lastC else ⟨#[]⟩
theorem getD_ofQ {C : List Card} {i : Nat} {c : Card} (h : C[i]? = some c) : C.getD i zeroCd = c := by simp [List.getD, h]
theorem odcT_step {Q : List Card} {i : Nat} {c : Card} (h : Q[i]? = some c) : odcT Q (i + 1) = odcT Q i ++ cardTextv c := by rw [odcT, getD_ofQ h]
theorem cardText_le (c : Card) : (cardTextv c).size ≤ 207 + c.Path.size + c.Data.size := by
  unfold cardTextv
  split
  · have h := octsS_le (flds c)
    have hl : (flds c).length = 10 := rfl
    have z6 : (⟨#[48, 55, 48, 55, 48, 55]⟩ : ByteArray).size = 6 := rfl
    have z1 : (⟨#[0]⟩ : ByteArray).size = 1 := rfl
    simp only [ByteArray.size_append]
    omega
  · exact Nat.zero_le _
def SmallQ (Q : List Card) : Prop := ∀ c ∈ Q, c.Path.size + c.Data.size ≤ 4194304
theorem smallQ_of {L : List Ent} (h : SmallL L) : SmallQ (cardsv L) := by
  intro c hc
  by_cases hk : listOkv L = true
  · obtain ⟨i, hi⟩ := List.mem_iff_getElem?.1 hc
    have hlt : i < L.length := by
      have := (List.getElem?_eq_some_iff.1 hi).1
      rwa [cardsv_len hk] at this
    have he : L[i]? = some L[i] := List.getElem?_eq_getElem hlt
    rw [cardsv_get hk he] at hi
    obtain rfl := Option.some.inj hi
    have hz := h.get he
    unfold esz at hz
    show L[i].path.size + (datav L[i]).size ≤ 4194304
    unfold datav
    split <;> omega
  · rw [cardsv, if_neg hk] at hc
    cases hc
theorem odcT_le {Q : List Card} (h : SmallQ Q) (i : Nat) (hi : i ≤ Q.length) : (odcT Q i).size ≤ 4194511 * i := by
  induction i with
  | zero => exact Nat.zero_le _
  | succ i ih =>
    have hq : Q[i]? = some Q[i] := List.getElem?_eq_getElem (by omega)
    have h1 := h _ (List.mem_of_getElem? hq)
    have h2 := cardText_le Q[i]
    rw [odcT_step hq, ByteArray.size_append]
    have := ih (by omega)
    omega
theorem putOdc_no {L : List Ent} (h : listOkv L = false) : putOdcB L = false ∧ putOdcT L = ⟨#[]⟩ := by
  have hb : putOdcB L = false := by rw [putOdcB, h]; rfl
  exact ⟨hb, by rw [putOdcT, hb]; rfl⟩
theorem putOdc_bad {L : List Ent} {i : Nat} {e : Ent} (he : L[i]? = some e) (h : odcFits e = false) : putOdcB L = false ∧ putOdcT L = ⟨#[]⟩ := by
  have hb : putOdcB L = false := by
    rw [putOdcB, show L.all odcFits = false from List.all_eq_false.2 ⟨e, List.mem_of_getElem? he, by simp [h]⟩]
    simp
  exact ⟨hb, by rw [putOdcT, hb]; rfl⟩
theorem putOdc_yes {L : List Ent} (h : listOkv L = true) (hf : ∀ j, j < L.length → ∀ e, L[j]? = some e → odcFits e = true) : putOdcB L = true ∧ putOdcT L = odcT (cardsv L) L.length ++ cardTextv lastC := by
  have hb : putOdcB L = true := by
    rw [putOdcB, h, List.all_eq_true.2 (fun e he => by
      obtain ⟨j, hj⟩ := List.mem_iff_getElem?.1 he
      exact hf j (List.getElem?_eq_some_iff.1 hj).1 e hj)]
    rfl
  exact ⟨hb, by rw [putOdcT, if_pos hb]⟩
theorem last_spec (w : World) : Calls Tryz.prog 28 #[] w fun e w' => e = .returned (.agg #[.int .i64 0, .int .i64 0, .int .i64 0, .int .i64 0, .int .i64 1, .int .i64 0, .string ⟨#[84, 82, 65, 73, 76, 69, 82, 33, 33, 33]⟩, .string ⟨#[]⟩]) ∧ Below w.heap.size w w' := by
  have R9 := CardO.new w lastC
  simp only [lastC, Card.cells] at R9
  go_enter Tryz.func28, Tryz.ntmps28
  go_wp2_with fail
  refine bodyPost_ret (res_OC1 (e := lastC) rfl _ rfl R9) rfl ?_
  exact ⟨rfl, (Below.refl _ _).alloc (Nat.le_refl _) _⟩
set_option maxHeartbeats 6400000 in
set_option maxRecDepth 8000 in
theorem putOdc_spec (L : List Ent) (n g cap : Nat) (w : World) (hn : n = L.length) (hm : n ≤ 1048576) (hcap : n ≤ cap) (hg : g < w.heap.size) (hsm : SmallL L) (h1 : RowE w g L) :
    Calls Tryz.prog 13 #[.slice (some ⟨g, 0, none⟩) n cap] w fun e w' => e = .returned (.tuple #[.string (putOdcT L), .bool (putOdcB L)]) ∧ Below w.heap.size w w' := by
  have H1 := Lib.hid h1
  have HK := Lib.hid (fun w (hg : g < w.heap.size) (h : RowE w g L) => listOk_spec L n g cap w hn (by omega) hcap hg hsm h)
  have HC := Lib.hid (fun w (hg : g < w.heap.size) (h : RowE w g L) => cardsOf_spec L n g cap w hn (by omega) hcap hg hsm h)
  have HG : Hid (∀ i, i < n → ∃ e, L[i]? = some e ∧ esz e ≤ 4194304) := Lib.hid (fun i hi => by obtain ⟨e, he⟩ := getE' (L := L) (i := i) (by omega); exact ⟨e, he, hsm.get he⟩)
  have HNo := Lib.hid (putOdc_no (L := L))
  have HBad := Lib.hid (fun i e (he : L[i]? = some e) h => putOdc_bad he h)
  have HYes : Hid (listOkv L = true → (∀ j, j < n → ∀ e, L[j]? = some e → odcFits e = true) → putOdcB L = true ∧ putOdcT L = odcT (cardsv L) n ++ cardTextv lastC) := Lib.hid (by rw [hn]; exact putOdc_yes)
  have HQ : Hid (listOkv L = true → (cardsv L).length = n ∧ n ≤ 30) := Lib.hid (fun h => ⟨by rw [hn]; exact cardsv_len h, by rw [hn]; exact listOk_len h⟩)
  have HSQ := Lib.hid (smallQ_of hsm)
  have HLast := Lib.hid (cardText_le lastC)
  generalize putOdcB L = ok at HNo HBad HYes
  generalize putOdcT L = r at HNo HBad HYes
  generalize listOkv L = lk at HK HNo HYes HQ
  generalize cardsv L = Q at HC HYes HQ HSQ
  clear h1 hsm hn
  go_enter Tryz.func13, Tryz.ntmps13
  go_wp2_with fail
  refine (HK.out _ hg H1.out).mono ?_
  rintro e w1 ⟨rfl, hb⟩
  have B := Lib.hid hb
  clear hb
  cases lk with
  | false =>
    have HF := Lib.hid (HNo.out rfl)
    go_wp2_with fail
    go_ret2
    exact ⟨by rw [HF.out.1, HF.out.2]; rfl, B.out⟩
  | true =>
    obtain ⟨hql, hn30⟩ := HQ.out rfl
    have HY := Lib.hid (HYes.out rfl)
    clear HK HNo HYes HQ
    go_wp2_with fail
    refine (HC.out _ (by have := B.out.size; omega) (H1.out.below B.out hg)).mono ?_
    rintro e w2 ⟨v, rfl, ho, hb⟩
    obtain ⟨gc, cc, rfl, hrc, zc, _, _⟩ := ho.open
    have RC := Lib.hid hrc
    replace B := Lib.hid (btE B.out hb)
    clear ho hrc hb HC
    rw [hql]
    go_wp2_with fail
    go_loopw [4, 6] (fun v u wr => ∃ i : Nat, u = .int .i64 i ∧ i ≤ n ∧ (∀ j, j < i → ∀ e, L[j]? = some e → odcFits e = true) ∧ v = .string (odcT Q i) ∧ RowC wr gc Q ∧ gc < wr.heap.size ∧ Below w.heap.size w wr) (fun _ u _ => n - (intOf u).toNat)
    case atStart => exact ⟨0, rfl, Nat.zero_le _, fun j hj => by omega, rfl, RC.out, zc, B.out⟩
    case round =>
      obtain ⟨i, rfl, hi, hf, rfl, hrc, zc2, hb⟩ := hrel
      clear RC B
      have HFt := Lib.hid hf
      have RC := Lib.hid hrc
      have B := Lib.hid hb
      have hszB := B.out.size
      clear hf hrc hb
      have hle := odcT_le HSQ.out i (by omega)
      by_cases hlt : i < n
      · have hlt2 : (i : Int) < (n : Int) := by omega
        obtain ⟨e, he, hz⟩ := HG.out i hlt
        obtain ⟨q, hq⟩ : ∃ q, Q[i]? = some q := ⟨Q[i], List.getElem?_eq_getElem (by omega)⟩
        have hqs := HSQ.out _ (List.mem_of_getElem? hq)
        have hcl := cardText_le q
        have HSt := Lib.hid (odcT_step hq)
        have HB2 := Lib.hid (HBad.out i e he)
        have HFn : Hid (odcFits e = true → ∀ j, j < i + 1 → ∀ e, L[j]? = some e → odcFits e = true) := Lib.hid (fun h j hj e' he' => by
          by_cases hji : j = i
          · subst hji; rw [he] at he'; obtain rfl := Option.some.inj he'; exact h
          · exact HFt.out j (by omega) e' he')
        obtain ⟨c0, c1, c2, c3, c4, c5, c6, c7, c8, c9⟩ := (H1.out.below B.out hg).ten he
        have Hq := Lib.hid hq
        clear he hq HBad HG
        obtain ⟨k, p, l, m, u1, gi, t, us, gr, b⟩ := e
        obtain ⟨hp, hl, hus, hgr, hbz⟩ := small_parts hz
        have HO := Lib.hid (fun w => odcFits_spec k p l m u1 gi t us gr b w hp hl hus hgr hbz)
        clear hz hp hl hus hgr hbz
        generalize odcFits ⟨k, p, l, m, u1, gi, t, us, gr, b⟩ = f at HB2 HFn HO
        go_wp2_with fail
        refine (HO.out _).mono ?_
        rintro e w3 ⟨rfl, hb⟩
        replace RC := Lib.hid (RC.out.below hb zc2)
        replace B := Lib.hid (btE B.out hb)
        have zc3 := Nat.lt_of_lt_of_le zc2 hb.size
        clear hb HO c0 c1 c2 c3 c4 c5 c6 c7 c8 c9
        cases f with
        | false =>
          have HF := Lib.hid (HB2.out rfl)
          go_wp2_with fail
          go_ret2
          exact ⟨by rw [HF.out.1, HF.out.2]; rfl, B.out⟩
        | true =>
          have HFi := Lib.hid (HFn.out rfl)
          obtain ⟨d0, d1, d2, d3, d4, d5, d6, d7⟩ := RC.out.cols Hq.out
          obtain ⟨q0, q1, q2, q3, q4, q5, qp, qd⟩ := q
          simp only at d0 d1 d2 d3 d4 d5 d6 d7 hqs hcl
          have HP := Lib.hid (fun w => putCard_spec q0 q1 q2 q3 q4 q5 qp qd w (by omega) (by omega))
          generalize cardTextv ⟨q0, q1, q2, q3, q4, q5, qp, qd⟩ = x at HP HSt hcl
          obtain ⟨T, hT⟩ : ∃ T, odcT Q i = T := ⟨_, rfl⟩
          rw [hT] at HSt hle ⊢
          clear hT HB2 HFn
          have hA : ∀ w, (Op.stringOp .add T x).run Tryz.prog w = .ok (.string (T ++ x)) w := fun w => run_string_add_sum w _ _ (by omega)
          go_wp2_with fail
          refine (HP.out _).mono ?_
          rintro e w4 ⟨rfl, hb⟩
          replace RC := Lib.hid (RC.out.below hb zc3)
          replace B := Lib.hid (btE B.out hb)
          have zc4 := Nat.lt_of_lt_of_le zc3 hb.size
          clear hb d0 d1 d2 d3 d4 d5 d6 d7 HP
          go_wp2_with fail
          go_roundw
          case rel => exact ⟨i + 1, by go_num, by omega, HFi.out, by rw [HSt.out], RC.out, zc4, B.out⟩
          case measure => simp [intOf]; omega
      · obtain rfl : i = n := by omega
        have hlt2 : ¬ (i : Int) < (i : Int) := by omega
        have HF := Lib.hid (HY.out HFt.out)
        have hll := HLast.out
        obtain ⟨x, hx⟩ : ∃ x, cardTextv lastC = x := ⟨_, rfl⟩
        have HP := Lib.hid (fun w => putCard_spec 0 0 0 0 1 0 ⟨#[84, 82, 65, 73, 76, 69, 82, 33, 33, 33]⟩ ⟨#[]⟩ w (by decide) (by decide))
        rw [show (cardTextv ⟨0, 0, 0, 0, 1, 0, ⟨#[84, 82, 65, 73, 76, 69, 82, 33, 33, 33]⟩, ⟨#[]⟩⟩) = x from hx] at HP
        rw [hx] at HF hll
        have hp1 : lastC.Path.size = 10 := rfl
        have hp2 : lastC.Data.size = 0 := rfl
        have hll2 : x.size ≤ 1000 := by omega
        obtain ⟨T, hT⟩ : ∃ T, odcT Q i = T := ⟨_, rfl⟩
        rw [hT] at HF hle ⊢
        clear hT hx hll HY
        have hA : ∀ w, (Op.stringOp .add T x).run Tryz.prog w = .ok (.string (T ++ x)) w := fun w => run_string_add_sum w _ _ (by omega)
        go_wp2_with fail
        refine (last_spec _).mono ?_
        rintro e w3 ⟨rfl, hb⟩
        replace B := Lib.hid (btE B.out hb)
        clear hb
        go_wp2_with fail
        refine (HP.out _).mono ?_
        rintro e w4 ⟨rfl, hb⟩
        replace B := Lib.hid (btE B.out hb)
        clear hb
        go_wp2_with fail
        go_ret2
        exact ⟨by rw [HF.out.1, HF.out.2]; rfl, B.out⟩
end Go.Proofs.YtcnmbolmgifgfabGreatDoor

/- The deferred function of impl.PutCard: what it does for a frame that panics with a code, and for one that returns. -/
namespace Go.Proofs.YtcnmbolmgifgfabGreatDoor
open Go.ChangeShapes Go.WideShapes Go.ChangeAt Go.RowKit

theorem put_catch (g : Nat) (c : Int) (x : ByteArray) (w : World) (hc : ¬ c = 0) (hg : g < w.heap.size) (hx : w.cell? ⟨g, 0, none⟩ = some (.string x)) (hz : w.frozen? ⟨g, 0, none⟩ = false) :
    CallsD Tryz.prog 109 #[.pointer (some ⟨g, 0, none⟩)] (.panicking [{ v := .iface 131 (.agg #[.int .i64 c]), recovered := false }]) w fun e u' w' =>
      e = .returned (.tuple #[]) ∧ u' = .panicking [{ v := .iface 131 (.agg #[.int .i64 c]), recovered := true }] ∧ ∃ w1, Below w.heap.size w w1 ∧ w' = w1.setCell ⟨g, 0, none⟩ (.string ⟨#[]⟩) := by
  refine callsD_of_wpS Tryz.func109 rfl fun c₀ cs hu => ?_
  apply wpS_seq
  apply wpS_region
  simp [wpOpsS, go_sem, recoverD, hu, Tryz.ntmps109, Exit.thenS]
  refine (cardCode_some c _).mono ?_
  rintro e w1 ⟨rfl, hb⟩
  have hx1 : w1.cell? ⟨g, 0, none⟩ = some (.string x) := (hb.cell (p := ⟨g, 0, none⟩) hg).trans hx
  have hz1 : w1.frozen? ⟨g, 0, none⟩ = false := (hb.frozen (p := ⟨g, 0, none⟩) hg).trans hz
  simp [go_sem]
  refine wpS_cond (t := true) (by simp [Act.eval, Array.replicate, hc]) ?_
  simp only [if_true]
  apply wpS_region
  simp [wpOpsS, go_sem, hx1, hz1, bodyPostS, results, Tryz.results109]
  exact ⟨w1, hb, rfl⟩
theorem put_idle (g : Nat) (w : World) :
    CallsD Tryz.prog 109 #[.pointer (some ⟨g, 0, none⟩)] .returning w fun e u' w' => e = .returned (.tuple #[]) ∧ u' = .returning ∧ Below w.heap.size w w' := by
  refine callsD_of_wpS Tryz.func109 rfl fun c₀ cs hu => ?_
  apply wpS_seq
  apply wpS_region
  simp [wpOpsS, go_sem, recoverD, hu, Tryz.ntmps109, Exit.thenS]
  refine (cardCode_nil _).mono ?_
  rintro e w1 ⟨rfl, hb⟩
  simp [go_sem]
  refine wpS_cond (t := false) (by simp [Act.eval, Array.replicate]) ?_
  simp only [Bool.false_eq_true, if_false]
  refine wpS_of_wp (wp_skip ?_)
  cases c₀
  simp_all [bodyPostS, results, Tryz.results109]
end Go.Proofs.YtcnmbolmgifgfabGreatDoor

/- A statement that draws its order, one of whose operations panics: from the same invariant. Nothing of the program is said here. -/
namespace Go.Proofs.YtcnmbolmgifgfabGreatDoor
open Go

section
variable {P : Program} {Q : Exit → Act → World → Prop}

/-- One operation, in whatever state what it looks at is there: what else the frame holds is told too. -/
def OpOkQ (P : Program) (ops : Array Oper) (C : World → Prop) (St : World → World → Prop) (V : Nat → Value → World → Prop) (a0 : Act) (Q : Exit → Act → World → Prop) (o : Oper) : Prop :=
  ∀ (a : Act) (w : World), C w → (∀ t, Operand.tmp t ∈ o.op.operands → oldB .any ops o t = false → V t (a.eval (.tmp t)) w) → (∀ t, Operand.tmp t ∈ o.op.operands → oldB .any ops o t = true → a.eval (.tmp t) = a0.eval (.tmp t)) →
    a.defers = a0.defers → a.tmps.size = a0.tmps.size → (∀ t, (∀ p ∈ ops.toList, p.dst ≠ some t) → a.tmps.getD t undef = a0.tmps.getD t undef) →
    o.wp P a w (fun a' w' => ∃ v, a' = a.put o.dst v ∧ C w' ∧ St w w' ∧ ∀ d, o.dst = some d → V d v w') Q
theorem opQ_of {ops : Array Oper} {C : World → Prop} {St : World → World → Prop} {V : Nat → Value → World → Prop} {a0 : Act} {o : Oper} (h : OpOk P ops C St V a0 o) : OpOkQ P ops C St V a0 Q o := fun a w hC hV hI _ _ _ => h Q a w hC hV hI
theorem wp_region_invQ {id : Nat} {a0 : Act} {w0 : World} {l : List Oper} (hm : P.follows .mixedOrders = true) (C : World → Prop) (St : World → World → Prop) (V : Nat → Value → World → Prop) (hB : regB .any l.toArray a0.tmps.size = true)
    (hC : C { w0 with drawn := w0.drawn + 1 }) (hV : ∀ d v w w', C w → St w w' → V d v w → V d v w') (hops : ∀ o ∈ l, OpOkQ P l.toArray C St V a0 Q o)
    (hend : ∀ (f : Nat → Value) (w : World), C w → (∀ o ∈ l, ∀ d, o.dst = some d → V d (f d) w) → Q .normal (putAll f l a0) w) : (Code.region id l.toArray true).wp P Q a0 w0 := by
  refine wp_region_any hm (wpAny_inv (RegI .any l.toArray C V a0) ?_ ?_ _ _ _ _ ?_ ?_)
  · intro listed a w hI i hi
    obtain ⟨hun, o, ho, hall⟩ := mem_ready.1 hi
    have hat := regB_at hB ho
    have hwant : Region.wanted o (yielded l.toArray a.tmps) = true := by simp [Region.wanted, hat.1]
    have hmem : o ∈ l := by
      have := Array.mem_of_getElem? ho
      simpa using this
    have hrun := hops o hmem a w hI.cls (fun t ht hin => ?_) (fun t ht hin => ?_) hI.defers hI.tsize (fun t ht => hI.old t (fun j p hp _ => ht p (by have := Array.mem_of_getElem? hp; simpa using this)))
    · unfold wpOp
      simp only [ho, hwant, if_true]
      refine .inl (Oper.wp_mono (fun a' w' h' => ?_) hrun)
      obtain ⟨v, rfl, hC', hSt, hv⟩ := h'
      have hltl : i < listed.size := by rw [hI.size]; exact (Array.getElem?_eq_some_iff.1 ho).1
      refine ⟨by simpa using hI.size, fun j p hp hl e he hb => ?_, hC', ?_, ?_, fun t ht => ?_, fun j p d hp hl hd => ?_⟩
      · have hup : ∀ k, listed.getD k false = true → (listed.setIfInBounds i true).getD k false = true := fun k hk => by
          by_cases q : k = i
          · subst q; exact set_getD_self hltl
          · rw [set_getD_ne q]; exact hk
        by_cases hj : j = i
        · subst hj
          rw [ho] at hp
          obtain rfl := Option.some.inj hp
          exact hup _ (hall e he hb)
        · rw [set_getD_ne hj] at hl
          exact hup _ (hI.clo j p hp hl e he hb)
      · cases hdst : o.dst <;> simp [Act.put, hI.defers]
      · cases hdst : o.dst <;> simp [Act.put, hI.tsize]
      · have hne : o.dst ≠ some t := ht i o ho (set_getD_self hltl)
        have h1 := hI.old t (fun j p hp hl => ht j p hp (by
          by_cases hj : j = i
          · subst hj; exact set_getD_self hltl
          · rw [set_getD_ne hj]; exact hl))
        rw [← h1]
        cases hdst : o.dst with
        | none => rfl
        | some d =>
          have hdt : d ≠ t := fun e => hne (by rw [hdst, e])
          exact getD_put_ne hdt
      · by_cases hj : j = i
        · subst hj
          rw [ho] at hp
          obtain rfl := Option.some.inj hp
          have hdl := hat.2.1 d hd
          have : (a.put o.dst v).tmps.getD d undef = v := by
            rw [hd]; simp [Act.put, Array.getD, hI.tsize, hdl]
          rw [this]
          exact hv d hd
        · have hl' : listed.getD j false = true := by rw [set_getD_ne hj] at hl; exact hl
          have hne : o.dst ≠ some d := ((hat.2.2.2 j p d hp hd).1).resolve_left (Ne.symm hj)
          have hold := hI.new j p d hp hl' hd
          have : (a.put o.dst v).tmps.getD d undef = a.tmps.getD d undef := by
            cases hdst : o.dst with
            | none => rfl
            | some d' =>
              have hdt : d' ≠ d := fun e => hne (by rw [hdst, e])
              exact getD_put_ne hdt
          rw [this]
          exact hV d _ _ _ hI.cls hSt hold
    · obtain ⟨j, p, hp, hd⟩ := oldB_f hin
      obtain ⟨e, he, hb, rfl⟩ := (hat.2.2.2 j p t hp hd).2 (by simpa using ht) hin
      exact hI.new e.on p t hp (hall e he hb) hd
    · refine hI.old t (fun j p hp hl hd => ?_)
      obtain ⟨d, hod, e, he, hb, hq⟩ := oldB_t hin hp hd
      have hel := hI.clo j p hp hl e he hb
      cases hqq : l.toArray[e.on]? with
      | none => rw [hqq] at hq; cases hq
      | some q =>
        rw [hqq] at hq
        rcases (hat.2.2.2 e.on q d hqq hq).1 with rfl | h
        · have hlt : e.on < listed.size := by rw [hI.size]; exact (Array.getElem?_eq_some_iff.1 hqq).1
          simp only [Array.getD, hlt, dif_pos] at hel hun
          rw [hel] at hun
          cases hun
        · exact h hod
  · intro listed a w hI hr
    have hal := all_listed hB hI.size hr
    have hput := putAll_facts (fun d => a.tmps.getD d undef) l a0
    have ha : a = putAll (fun d => a.tmps.getD d undef) l a0 := by
      refine act_ext (hI.defers.trans hput.1.symm) (hI.tsize.trans hput.2.1.symm) (fun t ht => ?_)
      rw [hput.2.1] at ht
      rw [hput.2.2 t ht]
      by_cases h : l.any (fun o => o.dst == some t) = true
      · rw [if_pos h]
      · rw [if_neg h]
        refine hI.old t (fun i o ho _ hd => h ?_)
        rw [List.any_eq_true]
        exact ⟨o, by have := Array.mem_of_getElem? ho; simpa using this, by rw [hd]; simp⟩
    rw [ha]
    refine hend _ w hI.cls (fun o ho d hd => ?_)
    obtain ⟨i, hi⟩ := List.mem_iff_getElem?.1 ho
    have hi' : l.toArray[i]? = some o := by simpa using hi
    exact hI.new i o d hi' (hal i (Array.getElem?_eq_some_iff.1 hi').1) hd
  · unfold openOps
    exact Nat.le_trans (List.length_filter_le _ _) (by simp)
  · refine ⟨by simp, fun j p _ hl => ?_, hC, rfl, rfl, fun t _ => rfl, fun i o d ho hl _ => ?_⟩
    · simp [Array.getD] at hl
    · simp [Array.getD] at hl
/-- A call that panics. -/
theorem op_pan {N : Act → World → Prop} {o : Oper} {a : Act} {w : World} {f : FuncId} {args : Array Value} {ch : List PanicEntry} (h : (execOp a.eval o).run P w = .ok (.enter f args) w)
    (hc : Calls P f args w fun e w' => e = .panicked ch ∧ Q (.panic ch) a w') : o.wp P a w N Q := by
  unfold Oper.wp
  rw [h]
  refine Calls.mono hc (fun e w' he => ?_)
  obtain ⟨rfl, hq⟩ := he
  exact hq
end
end Go.Proofs.YtcnmbolmgifgfabGreatDoor

/- Contract of impl.PutCard. -/
namespace Go.Proofs.YtcnmbolmgifgfabGreatDoor
open Go.ChangeShapes Go.WideShapes Go.ChangeAt Go.RowKit Go.Deep

theorem heap_newAt (w : World) (o : Obj) (g : Nat) (hg : g = w.heap.size) : (w.alloc o).heap[g]? = some o := by subst hg; exact heap_lastG w o
theorem setCell_sameP {w : World} {b : Nat} {v : Value} (h : w.cell? ⟨b, 0, none⟩ = some v) : w.setCell ⟨b, 0, none⟩ v = w := by
  have e : (w.setCell ⟨b, 0, none⟩ v).heap = w.heap := by
    unfold World.setCell
    apply Array.ext
    · simp
    · intro i h1 h2
      simp only [Array.getElem_modify]
      split
      · rename_i hbi
        subst hbi
        simp only [World.cell?, Array.getElem?_eq_getElem h2] at h
        split
        · rename_i c el fz hc
          rw [hc] at h
          simp at h
          simp only [Option.isSome_none, Bool.false_eq_true, if_false]
          rw [hc]
          congr 1
          apply Array.ext
          · simp
          · intro j g1 g2
            rw [Array.getElem_setIfInBounds]
            split
            · rename_i hj
              subst hj
              rw [Array.getElem?_eq_getElem g2] at h
              simpa using h.symm
            · rfl
        · rfl
      · rfl
  have e2 : w.setCell ⟨b, 0, none⟩ v = { w with heap := (w.setCell ⟨b, 0, none⟩ v).heap } := rfl
  rw [e2, e]
theorem nums_of {w : World} {gh : Nat} {ino mo u1 gi cn t z0 z1 ps ds : Int} {p d : ByteArray} {ty : TypeId} (h : w.heap[gh]? = some (.cells #[.int .i64 ino, .int .i64 mo, .int .i64 u1, .int .i64 gi, .int .i64 cn, .int .i64 t, .string p, .string d, .int .i64 z0, .int .i64 z1, .int .i64 ps, .int .i64 ds] ty (0, 0))) : NumsAt w gh [(z0, 6), (ino, 6), (mo, 6), (u1, 6), (gi, 6), (cn, 6), (z1, 6), (t, 11), (ps, 6), (ds, 11)] := by
  intro i x hx
  simp only [World.cell?, h]
  match i, hx with
  | 0, hx => simp [offv] at hx ⊢; simp [← hx]
  | 1, hx => simp [offv] at hx ⊢; simp [← hx]
  | 2, hx => simp [offv] at hx ⊢; simp [← hx]
  | 3, hx => simp [offv] at hx ⊢; simp [← hx]
  | 4, hx => simp [offv] at hx ⊢; simp [← hx]
  | 5, hx => simp [offv] at hx ⊢; simp [← hx]
  | 6, hx => simp [offv] at hx ⊢; simp [← hx]
  | 7, hx => simp [offv] at hx ⊢; simp [← hx]
  | 8, hx => simp [offv] at hx ⊢; simp [← hx]
  | 9, hx => simp [offv] at hx ⊢; simp [← hx]
  | i + 10, hx => simp at hx
set_option maxHeartbeats 6400000 in
set_option maxRecDepth 8000 in
theorem putCard_impl (ino mo u1 gi cn t : Int) (p d : ByteArray) (w : World) (hp : p.size ≤ 4194304) (hd : d.size ≤ 4194304) (hT : Tabs w) :
    Calls Tryz.prog 65 #[.agg #[.int .i64 ino, .int .i64 mo, .int .i64 u1, .int .i64 gi, .int .i64 cn, .int .i64 t, .string p, .string d]] w fun e w' => e = .returned (.string (cardTextv ⟨ino, mo, u1, gi, cn, t, p, d⟩)) ∧ Below w.heap.size w w' := by
  have hmf : ∀ (fn : Fn) (first cap : Array Value) (w : World), (Instr.makeFunc fn first cap).run Tryz.prog w = .ok (.func fn first cap) w := fun _ _ _ _ => rfl
  have HDg := Lib.hid (fun gh w hg hN hT => digits_any (flds ⟨ino, mo, u1, gi, cn, t, p, d⟩) gh w rfl hg hN hT)
  have HE : Hid (digE (flds ⟨ino, mo, u1, gi, cn, t, p, d⟩) = if octsOk (flds ⟨ino, mo, u1, gi, cn, t, p, d⟩) then .returned (.string (octsS (flds ⟨ino, mo, u1, gi, cn, t, p, d⟩))) else .panicked (panC 3)) := Lib.hid rfl
  have HV : Hid (cardTextv ⟨ino, mo, u1, gi, cn, t, p, d⟩ = if octsOk (flds ⟨ino, mo, u1, gi, cn, t, p, d⟩) then ⟨#[48, 55, 48, 55, 48, 55]⟩ ++ octsS (flds ⟨ino, mo, u1, gi, cn, t, p, d⟩) ++ p ++ ⟨#[0]⟩ ++ d else ⟨#[]⟩) := Lib.hid rfl
  have hle := octsS_le (flds ⟨ino, mo, u1, gi, cn, t, p, d⟩)
  have hln : (flds ⟨ino, mo, u1, gi, cn, t, p, d⟩).length = 10 := rfl
  have HNs := Lib.hid (fun (w : World) (gh : Nat) (h : w.heap[gh]? = some (.cells #[.int .i64 ino, .int .i64 mo, .int .i64 u1, .int .i64 gi, .int .i64 cn, .int .i64 t, .string p, .string d, .int .i64 0, .int .i64 0, .int .i64 ((p.size : Int) + 1), .int .i64 (d.size : Int)] 124 (0, 0))) => nums_of (w := w) (gh := gh) h)
  have HT := Lib.hid hT
  generalize cardTextv ⟨ino, mo, u1, gi, cn, t, p, d⟩ = r at HV
  generalize digE (flds ⟨ino, mo, u1, gi, cn, t, p, d⟩) = E at HDg HE
  generalize octsOk (flds ⟨ino, mo, u1, gi, cn, t, p, d⟩) = ok at HV HE
  generalize octsS (flds ⟨ino, mo, u1, gi, cn, t, p, d⟩) = rs at HV HE hle
  have hos : rs.size ≤ 200 := by omega
  clear hln hle hT
  go_enter_defers Tryz.func65, Tryz.ntmps65
  go_upto_region 3 with fail
  generalize hw1 : World.alloc (World.alloc (World.alloc w _) _) _ = w1
  have XC : Hid (CardO w1 w.heap.size ⟨ino, mo, u1, gi, cn, t, p, d⟩) := Lib.hid (by rw [← hw1]; exact (CardO.new w ⟨ino, mo, u1, gi, cn, t, p, d⟩).below (B := w.heap.size + 1) (((Below.refl _ _).alloc (by simp) _).alloc (by simp) _) (by omega))
  have XT : Hid (w1.heap[w.heap.size + 1]? = some (.cells #[.string ⟨#[]⟩] 9 (0, 0))) := Lib.hid (by rw [← hw1]; exact (((Below.refl _ _).alloc (Nat.le_refl _) _).block (w.heap.size + 1) (by simp)).trans (heap_newAt _ _ _ (by simp)))
  have XH : Hid (w1.heap[w.heap.size + 1 + 1]? = some (.cells #[.int .i64 ino, .int .i64 mo, .int .i64 u1, .int .i64 gi, .int .i64 cn, .int .i64 t, .string p, .string d, .int .i64 0, .int .i64 0, .int .i64 ((p.size : Int) + 1), .int .i64 (d.size : Int)] 124 (0, 0))) := Lib.hid (by rw [← hw1]; exact heap_newAt _ _ _ (by simp))
  have B1 : Hid (Below w.heap.size w w1) := Lib.hid (by rw [← hw1]; exact (((Below.refl _ _).alloc (Nat.le_refl _) _).alloc (by simp) _).alloc (by simp; omega) _)
  have hs1 : w1.heap.size = w.heap.size + 3 := by rw [← hw1]; simp
  clear hw1
  have HD := Lib.hid (fun w' (hb : Below w1.heap.size w1 w') => HDg.out (w.heap.size + 1 + 1) w' (by have := hb.size; omega) (HNs.out w' _ ((hb.block _ (by omega)).trans XH.out)) (HT.out.below (B1.out.trans (hb.mono (by omega)))))
  clear HDg HNs HT XH
  cases ok with
  | false =>
    have HF : Hid (r = ⟨#[]⟩) := Lib.hid (by rw [HV.out]; rfl)
    rw [show E = .panicked (panC 3) from by rw [HE.out]; rfl] at HD
    clear HV HE
    have KC : Hid (∀ w', Below w1.heap.size w1 w' → w'.cell? ⟨w.heap.size, 6, none⟩ = some (.string p) ∧ w'.cell? ⟨w.heap.size, 7, none⟩ = some (.string d)) := Lib.hid (fun w' hb => by
      obtain ⟨k0, k1, k2, k3, k4, k5, k6, k7⟩ := (XC.out.below hb (by omega)).at.zero
      exact ⟨k6, k7⟩)
    refine wp_region_invQ (by kernel_rfl) (fun w' => Below w1.heap.size w1 w') (fun x y => Below x.heap.size x y) (fun dq vq _ => match dq with | 16 => vq = .pointer (some ⟨w.heap.size, 6, none⟩) | 17 => vq = .string p | 20 => vq = .pointer (some ⟨w.heap.size, 7, none⟩) | 21 => vq = .string d | 14 => False | 15 => False | 18 => False | 19 => False | 22 => False | _ => True) (by kernel_rfl) ((Below.refl _ _).drew) (fun _ _ _ _ _ _ h => h) ?hopsp ?hendp
    case hopsp =>
      simp only [List.forall_mem_cons]
      refine ⟨?p14, ?p15, ?p16, ?p17, ?p18, ?p19, ?p20, ?p21, ?p22, ?pst, fun _ h => by cases h⟩
      case p14 =>
        intro a w2 hC hV hI hd hsz hold
        have e3 : a.eval (.tmp 3) = .pointer (some ⟨w.heap.size + 1 + 1, 0, none⟩) := (hI 3 (by simp [Op.operands, Call.operands]) (by kernel_rfl)).trans rfl
        have f3 : a.tmps.getD 3 undef = .pointer (some ⟨w.heap.size + 1 + 1, 0, none⟩) := e3
        have g3 : a.tmps[3]?.getD undef = .pointer (some ⟨w.heap.size + 1 + 1, 0, none⟩) := by rw [← Array.getD_eq_getD_getElem?]; exact e3
        have t2 : a.tmps.getD 2 undef = .pointer (some ⟨w.heap.size + 1, 0, none⟩) := (hold 2 (by simp)).trans rfl
        have t2b : a.tmps[2]?.getD undef = .pointer (some ⟨w.heap.size + 1, 0, none⟩) := by rw [← Array.getD_eq_getD_getElem?]; exact t2
        refine op_pan (f := 110) (args := #[.pointer (some ⟨w.heap.size + 1 + 1, 0, none⟩)]) (ch := panC 3) ?_ ((HD.out w2 hC).mono ?_)
        · (clear hV hI hC hold hd t2 t2b; go_simp <;> (first | rfl | simp))
        · rintro e y ⟨rfl, hb⟩
          refine ⟨rfl, ?_⟩
          have hx : y.cell? ⟨w.heap.size + 1, 0, none⟩ = some (.string ⟨#[]⟩) := by
            have h9 := (hb.block (w.heap.size + 1) (by have := hC.size; omega)).trans ((hC.block (w.heap.size + 1) (by omega)).trans XT.out)
            simp [World.cell?, h9]
          have hz : y.frozen? ⟨w.heap.size + 1, 0, none⟩ = false := by
            have h9 := (hb.block (w.heap.size + 1) (by have := hC.size; omega)).trans ((hC.block (w.heap.size + 1) (by omega)).trans XT.out)
            simp [World.frozen?, h9]
          have By := B1.out.trans ((hC.trans (hb.mono hC.size)).mono (by omega))
          have hys := By.size
          have hlt : w.heap.size + 1 < y.heap.size := by have := hb.size; have := hC.size; omega
          show Leaves Tryz.prog _ a.tmps _ a.defers (.panicking (panC 3)) y
          rw [hd]
          refine leaves_cons (f := 109) (args := #[.pointer (some ⟨w.heap.size + 1, 0, none⟩)]) (by simp) (by simp [go_sem]) ?_
          refine (put_catch (w.heap.size + 1) 3 ⟨#[]⟩ _ (by decide) hlt hx hz).mono ?_
          rintro e u' w3 ⟨rfl, rfl, w4, hb4, rfl⟩
          have hx4 : w4.cell? ⟨w.heap.size + 1, 0, none⟩ = some (.string ⟨#[]⟩) := (hb4.cell (p := ⟨w.heap.size + 1, 0, none⟩) hlt).trans hx
          have B4 : Below w.heap.size w (w4.setCell ⟨w.heap.size + 1, 0, none⟩ (.string ⟨#[]⟩)) := (By.trans (hb4.mono hys)).setCell (p := ⟨w.heap.size + 1, 0, none⟩) (by simp) _
          rw [setCell_sameP hx4] at B4 ⊢
          simp [Leaves, settle, results, Tryz.results65, go_sem, t2b, hx4, HF.out]
          exact B4
      case p15 =>
        intro a w2 hC hV hI hd hsz hold
        exact (show False from hV 14 (by simp [Op.operands]) (by kernel_rfl)).elim
      case p16 =>
        refine opQ_of ?_
        intro Q a w2 hC hV hI
        have e1 : a.eval (.tmp 1) = .pointer (some ⟨w.heap.size, 0, none⟩) := (hI 1 (by simp [Op.operands]) (by kernel_rfl)).trans rfl
        have f1 : a.tmps.getD 1 undef = .pointer (some ⟨w.heap.size, 0, none⟩) := e1
        have g1 : a.tmps[1]?.getD undef = .pointer (some ⟨w.heap.size, 0, none⟩) := by rw [← Array.getD_eq_getD_getElem?]; exact e1
        refine op_val (.pointer (some ⟨w.heap.size, 6, none⟩)) ?_ hC (Below.refl _ _) (by intro d hd; cases hd; exact rfl)
        (clear hV hI hC; go_simp <;> (first | rfl | simp))
      case p17 =>
        refine opQ_of ?_
        intro Q a w2 hC hV hI
        have e16 : a.eval (.tmp 16) = .pointer (some ⟨w.heap.size, 6, none⟩) := hV 16 (by simp [Op.operands]) (by kernel_rfl)
        have f16 : a.tmps.getD 16 undef = .pointer (some ⟨w.heap.size, 6, none⟩) := e16
        have g16 : a.tmps[16]?.getD undef = .pointer (some ⟨w.heap.size, 6, none⟩) := by rw [← Array.getD_eq_getD_getElem?]; exact e16
        have hK := KC.out w2 hC
        refine op_val (.string p) ?_ hC (Below.refl _ _) (by intro d hd; cases hd; exact rfl)
        (clear hV hI hC; go_simp <;> (first | rfl | simp))
      case p18 =>
        intro a w2 hC hV hI hd hsz hold
        exact (show False from hV 15 (by simp [Op.operands]) (by kernel_rfl)).elim
      case p19 =>
        intro a w2 hC hV hI hd hsz hold
        exact (show False from hV 18 (by simp [Op.operands]) (by kernel_rfl)).elim
      case p20 =>
        refine opQ_of ?_
        intro Q a w2 hC hV hI
        have e1 : a.eval (.tmp 1) = .pointer (some ⟨w.heap.size, 0, none⟩) := (hI 1 (by simp [Op.operands]) (by kernel_rfl)).trans rfl
        have f1 : a.tmps.getD 1 undef = .pointer (some ⟨w.heap.size, 0, none⟩) := e1
        have g1 : a.tmps[1]?.getD undef = .pointer (some ⟨w.heap.size, 0, none⟩) := by rw [← Array.getD_eq_getD_getElem?]; exact e1
        refine op_val (.pointer (some ⟨w.heap.size, 7, none⟩)) ?_ hC (Below.refl _ _) (by intro d hd; cases hd; exact rfl)
        (clear hV hI hC; go_simp <;> (first | rfl | simp))
      case p21 =>
        refine opQ_of ?_
        intro Q a w2 hC hV hI
        have e20 : a.eval (.tmp 20) = .pointer (some ⟨w.heap.size, 7, none⟩) := hV 20 (by simp [Op.operands]) (by kernel_rfl)
        have f20 : a.tmps.getD 20 undef = .pointer (some ⟨w.heap.size, 7, none⟩) := e20
        have g20 : a.tmps[20]?.getD undef = .pointer (some ⟨w.heap.size, 7, none⟩) := by rw [← Array.getD_eq_getD_getElem?]; exact e20
        have hK := KC.out w2 hC
        refine op_val (.string d) ?_ hC (Below.refl _ _) (by intro d hd; cases hd; exact rfl)
        (clear hV hI hC; go_simp <;> (first | rfl | simp))
      case p22 =>
        intro a w2 hC hV hI hd hsz hold
        exact (show False from hV 19 (by simp [Op.operands]) (by kernel_rfl)).elim
      case pst =>
        intro a w2 hC hV hI hd hsz hold
        exact (show False from hV 22 (by simp [Op.operands]) (by kernel_rfl)).elim
    case hendp =>
      intro f w2 hC hall
      simp only [List.forall_mem_cons] at hall
      exact (show False from hall.1 14 rfl).elim
  | true =>
    have HF : Hid (r = ⟨#[48, 55, 48, 55, 48, 55]⟩ ++ rs ++ p ++ ⟨#[0]⟩ ++ d) := Lib.hid (by rw [HV.out]; rfl)
    rw [show E = .returned (.string rs) from by rw [HE.out]; rfl] at HD
    clear HV HE
    have z6 : (⟨#[48, 55, 48, 55, 48, 55]⟩ : ByteArray).size = 6 := rfl
    have z1 : (⟨#[0]⟩ : ByteArray).size = 1 := rfl
    have KC : Hid (∀ w', Below w1.heap.size w1 w' → w'.cell? ⟨w.heap.size, 6, none⟩ = some (.string p) ∧ w'.cell? ⟨w.heap.size, 7, none⟩ = some (.string d)) := Lib.hid (fun w' hb => by
      obtain ⟨k0, k1, k2, k3, k4, k5, k6, k7⟩ := (XC.out.below hb (by omega)).at.zero
      exact ⟨k6, k7⟩)

    obtain ⟨x15, hx15⟩ : ∃ x : ByteArray, x = ⟨#[48, 55, 48, 55, 48, 55]⟩ ++ rs := ⟨_, rfl⟩
    obtain ⟨x18, hx18⟩ : ∃ x : ByteArray, x = x15 ++ p := ⟨_, rfl⟩
    obtain ⟨x19, hx19⟩ : ∃ x : ByteArray, x = x18 ++ ⟨#[0]⟩ := ⟨_, rfl⟩
    obtain ⟨x22, hx22⟩ : ∃ x : ByteArray, x = x19 ++ d := ⟨_, rfl⟩
    have zx15 : x15.size ≤ 206 := by rw [hx15, ByteArray.size_append]; omega
    have zx18 : x18.size ≤ 4194510 := by rw [hx18, ByteArray.size_append]; omega
    have zx19 : x19.size ≤ 4194511 := by rw [hx19, ByteArray.size_append]; omega
    have zx22 : x22.size ≤ 8388815 := by rw [hx22, ByteArray.size_append]; omega
    have HA15 : Hid (∀ w, (Op.stringOp .add ⟨#[48, 55, 48, 55, 48, 55]⟩ rs).run Tryz.prog w = .ok (.string x15) w) := Lib.hid (fun w => by rw [hx15]; exact run_string_add_sum w _ _ (by omega))
    have HA18 : Hid (∀ w, (Op.stringOp .add x15 p).run Tryz.prog w = .ok (.string x18) w) := Lib.hid (fun w => by rw [hx18]; exact run_string_add_sum w _ _ (by omega))
    have HA19 : Hid (∀ w, (Op.stringOp .add x18 ⟨#[0]⟩).run Tryz.prog w = .ok (.string x19) w) := Lib.hid (fun w => by rw [hx19]; exact run_string_add_sum w _ _ (by omega))
    have HA22 : Hid (∀ w, (Op.stringOp .add x19 d).run Tryz.prog w = .ok (.string x22) w) := Lib.hid (fun w => by rw [hx22]; exact run_string_add_sum w _ _ (by omega))
    have HX15 := Lib.hid hx15
    have HX18 := Lib.hid hx18
    have HX19 := Lib.hid hx19
    have HX22 := Lib.hid hx22
    clear hx15 hx18 hx19 hx22
    refine wp_region_cut 9 (by kernel_rfl) (fun w' => Below w1.heap.size w1 w') (fun x y => Below x.heap.size x y) (fun dq vq _ => match dq with | 14 => vq = .string rs | 15 => vq = .string x15 | 16 => vq = .pointer (some ⟨w.heap.size, 6, none⟩) | 17 => vq = .string p | 18 => vq = .string x18 | 19 => vq = .string x19 | 20 => vq = .pointer (some ⟨w.heap.size, 7, none⟩) | 21 => vq = .string d | 22 => vq = .string x22 | _ => True) (by kernel_rfl) (by kernel_rfl) ((Below.refl _ _).drew) (fun _ _ _ _ _ _ h => h) (by simp) ?hops ?hend
    case hops =>
      simp only [List.take_succ_cons, List.take_zero, List.forall_mem_cons]
      refine ⟨?o14, ?o15, ?o16, ?o17, ?o18, ?o19, ?o20, ?o21, ?o22, fun _ h => by cases h⟩
      case o14 =>
        intro Q a w2 hC hV hI
        have e3 : a.eval (.tmp 3) = .pointer (some ⟨w.heap.size + 1 + 1, 0, none⟩) := (hI 3 (by simp [Op.operands, Call.operands]) (by kernel_rfl)).trans rfl
        have f3 : a.tmps.getD 3 undef = .pointer (some ⟨w.heap.size + 1 + 1, 0, none⟩) := e3
        have g3 : a.tmps[3]?.getD undef = .pointer (some ⟨w.heap.size + 1 + 1, 0, none⟩) := by rw [← Array.getD_eq_getD_getElem?]; exact e3
        refine op_call (f := 110) (args := #[.pointer (some ⟨w.heap.size + 1 + 1, 0, none⟩)]) (R := fun v y => v = .string rs ∧ Below w2.heap.size w2 y) ?_ ((HD.out w2 hC).mono ?_) ?_
        · (clear hV hI hC; go_simp <;> (first | rfl | simp | (rw [IntKind.wrap_i64]; omega)))
        · rintro e y ⟨rfl, hb⟩; exact ⟨_, rfl, rfl, hb⟩
        · rintro v y ⟨rfl, hb⟩; exact ⟨hC.trans (hb.mono hC.size), hb, by intro d hd; cases hd; rfl⟩
      case o15 =>
        intro Q a w2 hC hV hI
        have e14 : a.eval (.tmp 14) = .string rs := hV 14 (by simp [Op.operands]) (by kernel_rfl)
        have f14 : a.tmps.getD 14 undef = .string rs := e14
        have g14 : a.tmps[14]?.getD undef = .string rs := by rw [← Array.getD_eq_getD_getElem?]; exact e14
        refine op_val (.string x15) ?_ hC (Below.refl _ _) (by intro d hd; cases hd; rfl)
        have q := HA15.out w2
        (clear hV hI hC; go_simp <;> (first | rfl | simp | (rw [IntKind.wrap_i64]; omega)))
      case o16 =>
        intro Q a w2 hC hV hI
        have e1 : a.eval (.tmp 1) = .pointer (some ⟨w.heap.size, 0, none⟩) := (hI 1 (by simp [Op.operands]) (by kernel_rfl)).trans rfl
        have f1 : a.tmps.getD 1 undef = .pointer (some ⟨w.heap.size, 0, none⟩) := e1
        have g1 : a.tmps[1]?.getD undef = .pointer (some ⟨w.heap.size, 0, none⟩) := by rw [← Array.getD_eq_getD_getElem?]; exact e1
        refine op_val (.pointer (some ⟨w.heap.size, 6, none⟩)) ?_ hC (Below.refl _ _) (by intro d hd; cases hd; rfl)
        (clear hV hI hC; go_simp <;> (first | rfl | simp | (rw [IntKind.wrap_i64]; omega)))
      case o17 =>
        intro Q a w2 hC hV hI
        have e16 : a.eval (.tmp 16) = .pointer (some ⟨w.heap.size, 6, none⟩) := hV 16 (by simp [Op.operands]) (by kernel_rfl)
        have f16 : a.tmps.getD 16 undef = .pointer (some ⟨w.heap.size, 6, none⟩) := e16
        have g16 : a.tmps[16]?.getD undef = .pointer (some ⟨w.heap.size, 6, none⟩) := by rw [← Array.getD_eq_getD_getElem?]; exact e16
        have hK := KC.out w2 hC
        refine op_val (.string p) ?_ hC (Below.refl _ _) (by intro d hd; cases hd; rfl)
        (clear hV hI hC; go_simp <;> (first | rfl | simp | (rw [IntKind.wrap_i64]; omega)))
      case o18 =>
        intro Q a w2 hC hV hI
        have e15 : a.eval (.tmp 15) = .string x15 := hV 15 (by simp [Op.operands]) (by kernel_rfl)
        have f15 : a.tmps.getD 15 undef = .string x15 := e15
        have g15 : a.tmps[15]?.getD undef = .string x15 := by rw [← Array.getD_eq_getD_getElem?]; exact e15
        have e17 : a.eval (.tmp 17) = .string p := hV 17 (by simp [Op.operands]) (by kernel_rfl)
        have f17 : a.tmps.getD 17 undef = .string p := e17
        have g17 : a.tmps[17]?.getD undef = .string p := by rw [← Array.getD_eq_getD_getElem?]; exact e17
        refine op_val (.string x18) ?_ hC (Below.refl _ _) (by intro d hd; cases hd; rfl)
        have q := HA18.out w2
        (clear hV hI hC; go_simp <;> (first | rfl | simp | (rw [IntKind.wrap_i64]; omega)))
      case o19 =>
        intro Q a w2 hC hV hI
        have e18 : a.eval (.tmp 18) = .string x18 := hV 18 (by simp [Op.operands]) (by kernel_rfl)
        have f18 : a.tmps.getD 18 undef = .string x18 := e18
        have g18 : a.tmps[18]?.getD undef = .string x18 := by rw [← Array.getD_eq_getD_getElem?]; exact e18
        refine op_val (.string x19) ?_ hC (Below.refl _ _) (by intro d hd; cases hd; rfl)
        have q := HA19.out w2
        (clear hV hI hC; go_simp <;> (first | rfl | simp | (rw [IntKind.wrap_i64]; omega)))
      case o20 =>
        intro Q a w2 hC hV hI
        have e1 : a.eval (.tmp 1) = .pointer (some ⟨w.heap.size, 0, none⟩) := (hI 1 (by simp [Op.operands]) (by kernel_rfl)).trans rfl
        have f1 : a.tmps.getD 1 undef = .pointer (some ⟨w.heap.size, 0, none⟩) := e1
        have g1 : a.tmps[1]?.getD undef = .pointer (some ⟨w.heap.size, 0, none⟩) := by rw [← Array.getD_eq_getD_getElem?]; exact e1
        refine op_val (.pointer (some ⟨w.heap.size, 7, none⟩)) ?_ hC (Below.refl _ _) (by intro d hd; cases hd; rfl)
        (clear hV hI hC; go_simp <;> (first | rfl | simp | (rw [IntKind.wrap_i64]; omega)))
      case o21 =>
        intro Q a w2 hC hV hI
        have e20 : a.eval (.tmp 20) = .pointer (some ⟨w.heap.size, 7, none⟩) := hV 20 (by simp [Op.operands]) (by kernel_rfl)
        have f20 : a.tmps.getD 20 undef = .pointer (some ⟨w.heap.size, 7, none⟩) := e20
        have g20 : a.tmps[20]?.getD undef = .pointer (some ⟨w.heap.size, 7, none⟩) := by rw [← Array.getD_eq_getD_getElem?]; exact e20
        have hK := KC.out w2 hC
        refine op_val (.string d) ?_ hC (Below.refl _ _) (by intro d hd; cases hd; rfl)
        (clear hV hI hC; go_simp <;> (first | rfl | simp | (rw [IntKind.wrap_i64]; omega)))
      case o22 =>
        intro Q a w2 hC hV hI
        have e19 : a.eval (.tmp 19) = .string x19 := hV 19 (by simp [Op.operands]) (by kernel_rfl)
        have f19 : a.tmps.getD 19 undef = .string x19 := e19
        have g19 : a.tmps[19]?.getD undef = .string x19 := by rw [← Array.getD_eq_getD_getElem?]; exact e19
        have e21 : a.eval (.tmp 21) = .string d := hV 21 (by simp [Op.operands]) (by kernel_rfl)
        have f21 : a.tmps.getD 21 undef = .string d := e21
        have g21 : a.tmps[21]?.getD undef = .string d := by rw [← Array.getD_eq_getD_getElem?]; exact e21
        refine op_val (.string x22) ?_ hC (Below.refl _ _) (by intro d hd; cases hd; rfl)
        have q := HA22.out w2
        (clear hV hI hC; go_simp <;> (first | rfl | simp | (rw [IntKind.wrap_i64]; omega)))
    case hend =>
      intro f w2 hC hall
      clear HA15 HA18 HA19 HA22
      simp only [List.take_succ_cons, List.take_zero, List.drop_succ_cons, List.drop_zero] at hall ⊢
      simp only [List.forall_mem_cons] at hall
      obtain ⟨h14, h15, h16, h17, h18, h19, h20, h21, h22, _⟩ := hall
      replace h14 : f 14 = .string rs := h14 14 rfl
      replace h15 : f 15 = .string x15 := h15 15 rfl
      replace h16 : f 16 = .pointer (some ⟨w.heap.size, 6, none⟩) := h16 16 rfl
      replace h17 : f 17 = .string p := h17 17 rfl
      replace h18 : f 18 = .string x18 := h18 18 rfl
      replace h19 : f 19 = .string x19 := h19 19 rfl
      replace h20 : f 20 = .pointer (some ⟨w.heap.size, 7, none⟩) := h20 20 rfl
      replace h21 : f 21 = .string d := h21 21 rfl
      replace h22 : f 22 = .string x22 := h22 22 rfl
      simp only [putAll, Act.put, List.setIfInBounds_toArray, List.set_cons_succ, List.set_cons_zero, h14, h15, h16, h17, h18, h19, h20, h21, h22]
      clear h14 h15 h16 h17 h18 h19 h20 h21 h22
      have XT2 := (hC.block (w.heap.size + 1) (by omega)).trans XT.out
      have hx : w2.cell? ⟨w.heap.size + 1, 0, none⟩ = some (.string ⟨#[]⟩) := by simp [World.cell?, XT2]
      have hz : w2.frozen? ⟨w.heap.size + 1, 0, none⟩ = false := by simp [World.frozen?, XT2]
      have B2 := B1.out.trans (hC.mono (by omega))
      have hlt2 : w.heap.size + 1 < w2.heap.size := by have := hC.size; omega
      have HX : Hid (r = x22) := Lib.hid (by rw [HF.out, HX22.out, HX19.out, HX18.out, HX15.out])
      clear KC hC XT2
      go_wp2
      refine leaves_cons (f := 109) (args := #[.pointer (some ⟨w.heap.size + 1, 0, none⟩)]) (by simp) (by simp [go_sem]) ?_
      refine (put_idle (w.heap.size + 1) _).mono ?_
      rintro e u' w3 ⟨rfl, rfl, hb⟩
      have hx3 : w3.cell? ⟨w.heap.size + 1, 0, none⟩ = some (.string x22) := (hb.cell (p := ⟨w.heap.size + 1, 0, none⟩) (by first | exact hlt2 | simpa using hlt2)).trans (by first | exact World.cell?_setCell_same hx _ | exact World.cell?_setCell_same _ _ _ hx | simp [go_sem, hx])
      have B3 : Below w.heap.size w w3 := (B2.setCell (p := ⟨w.heap.size + 1, 0, none⟩) (by simp) _).trans (hb.mono (by first | exact B2.size | simpa using B2.size))
      simp [Leaves, settle, results, Tryz.results65, go_sem, hx3, HX.out]
      exact B3
end Go.Proofs.YtcnmbolmgifgfabGreatDoor
