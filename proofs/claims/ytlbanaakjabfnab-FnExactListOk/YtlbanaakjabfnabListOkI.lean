/- Contract of impl.ListOk. -/
import Derived.Test.YtlbanaakjabfnabKindMath
import Derived.Test.YtlbanaakjabfnabEntOkI
import Derived.Test.YtlbanaakjabfnabEntAt
namespace Go.Proofs.Ytlbanaakjabfnab
open Go.ChangeShapes Go.WideShapes Go.ChangeAt Go.RowKit Go.Deep Go.Maps

theorem listOk_long {L : List Ent} (h : 30 < L.length) : listOkv L = false := by
  rw [listOkv, decide_eq_false (by omega)]; simp
set_option maxHeartbeats 1600000 in
theorem listOk_impl (L : List Ent) (n g cap : Nat) (w : World) (hn : n = L.length) (hm : n ≤ 4194304) (hg : g < w.heap.size) (hsm : SmallL L) (h1 : RowE w g L) :
    Calls Try.prog 16 #[.slice (some ⟨g, 0, none⟩) n cap] w fun e w' => e = .returned (.bool (listOkv L)) ∧ Below w.heap.size w w' := by
  have H1 := Lib.hid h1
  have HG : Hid (∀ i, i < n → ∃ e, L[i]? = some e ∧ esz e ≤ 4194304) := Lib.hid (fun i hi => by obtain ⟨e, he⟩ := getE' (L := L) (i := i) (by omega); exact ⟨e, he, hsm.get he⟩)
  have HBad : Hid (∀ i e, L[i]? = some e → entAtOk L i e = false → listOkv L = false) := Lib.hid (fun i e he hk => listOk_bad he hk)
  have HDone : Hid (OksTo L n → n ≤ 30 → listOkv L = true) := Lib.hid (by rw [hn]; intro h h2; rw [listOk_done h]; simpa using h2)
  have HLong : Hid (30 < n → listOkv L = false) := Lib.hid (by rw [hn]; exact listOk_long)
  generalize listOkv L = r at HBad HDone HLong
  clear h1 hn hsm
  by_cases h30 : 30 < n
  · have h30' : (30 : Int) < (n : Int) := by omega
    have HX := Lib.hid (HLong.out h30)
    go_enter Try.func16, Try.ntmps16
    go_wp2_with fail
    go_ret
    exact ⟨ret_bool HX.out.symm, Below.refl _ _⟩
  have h30' : ¬ (30 : Int) < (n : Int) := by omega
  have hmm := @run_makeMap Try.prog
  go_enter Try.func16, Try.ntmps16
  go_wp2_with fail
  go_loopw [5, 6, 7, 8, 9, 16] (fun _ _ _ _ _ u wr => ∃ i : Nat, u = .int .i64 i ∧ i ≤ n ∧ OksTo L i ∧ MapAt wr w.heap.size i (kindOf (L.take i)) ∧ Below w.heap.size w wr) (fun _ _ _ _ _ u _ => n - (intOf u).toNat)
  case atStart => exact ⟨0, rfl, Nat.zero_le _, fun j hj => by omega, by rw [kindOf_zero]; exact mapAt_made w, (Below.refl _ _).alloc (Nat.le_refl _) _⟩
  case round =>
    obtain ⟨i, rfl, hi, hr, hmap, hb⟩ := hrel
    have HR := Lib.hid hr
    have B := Lib.hid hb
    have HMp := Lib.hid hmap
    have zm := hmap.lt
    clear hr hb hmap hmm
    by_cases hlt : i < n
    · have hlt2 : (i : Int) < (n : Int) := by omega
      obtain ⟨e, he, hz⟩ := HG.out i hlt
      have R := Lib.hid (H1.out.below B.out hg)
      obtain ⟨c0, c1, c2, c3, c4, c5, c6, c7, c8, c9⟩ := R.out.ten he
      have HBi := Lib.hid (HBad.out i e he)
      have HSi := Lib.hid (fun hk => HR.out.step he hk)
      have HA := Lib.hid (entAtOk_kind he)
      have HK := Lib.hid (fun h => kindOf_snoc he h)
      clear he HBad HG HR
      have hsz := small_parts hz
      generalize kindOf (L.take i) = M at HMp HA HK
      obtain ⟨k, p, l, m, u, g0, t, us, gr, b⟩ := e
      have HO := Lib.hid (fun w => entryOk_impl k p l m u g0 t us gr b w hsz.1 hsz.2.1 hsz.2.2.1 hsz.2.2.2.1)
      dsimp only at hsz
      have kp : p.size ≤ maxLen := by have := hsz.1; simp only [maxLen]; omega
      have kl : l.size ≤ maxLen := by have := hsz.2.1; simp only [maxLen]; omega
      have HKd := Lib.hid (entOk_kind ⟨k, p, l, m, u, g0, t, us, gr, b⟩)
      generalize entAtOk L i ⟨k, p, l, m, u, g0, t, us, gr, b⟩ = ra at HA HBi HSi
      generalize entOkv ⟨k, p, l, m, u, g0, t, us, gr, b⟩ = b1 at HA HO HKd
      dsimp only at HA HK HKd
      clear hsz hz
      have zr : g < wr.heap.size := by have := B.out.size; omega
      obtain ⟨D, ho, hD⟩ := HMp.out
      have OM := Lib.hid ho
      have HD := Lib.hid hD
      clear ho hD HMp
      have HP := Lib.hid (HD.out.2 p).1
      have HLk := Lib.hid (HD.out.2 l)
      cases hp : M p with
      | some x =>
        have hh : Maps.has D (keyS p) = true := by rw [HP.out, hp]; rfl
        have HX : Hid (r = false) := Lib.hid (HBi.out (by rw [HA.out, hp]; simp))
        clear HA HK HP HLk HBi HSi HO HD hp
        go_wp2_with (at_lookup; refine wpList_lookup_own_ok_int _ rfl _ _ 54 rfl 9 3 .i64 lawS Try.underlying54 Try.underlying3 (zeroN _) w.heap.size i D rfl (OM.out.alloc _) _ _ rfl (key_of kp) ?_; intro c _ _)
        go_ret
        exact ⟨ret_bool HX.out.symm, B.out.alloc B.out.size _⟩
      | none =>
        have hh : Maps.has D (keyS p) = false := by rw [HP.out, hp]; rfl
        have HN := Lib.hid (HK.out hp)
        have HA2 : Hid (ra = (b1 && (if k = 3 then decide (M l = some 0) else true))) := Lib.hid (by rw [HA.out, hp]; simp)
        clear HA HK HP hp
        go_wp2_with (at_lookup; refine wpList_lookup_own_ok_int _ rfl _ _ 54 rfl 9 3 .i64 lawS Try.underlying54 Try.underlying3 (zeroN _) w.heap.size i D rfl (OM.out.alloc _) _ _ rfl (key_of kp) ?_; intro c _ _)
        refine (HO.out _).mono ?_
        rintro e w1 ⟨rfl, hb⟩
        have O1 := Lib.hid (ownsMap_below (OM.out.alloc _) hb)
        obtain ⟨k1, bb, z1⟩ := one_new (e1 := ⟨k, p, l, m, u, g0, t, us, gr, b⟩) hb
        have E1 := Lib.hid k1
        have B1 := Lib.hid (btE B.out bb)
        clear hb k1 bb c0 c1 c2 c3 c4 c5 c6 c7 c8 c9 R B HO OM hh
        obtain ⟨c0, c1, c2, c3, c4, c5, c6, c7, c8, c9⟩ := E1.out.zero
        have hsz1 := B1.out.size
        cases b1 with
        | false =>
          go_wp2_with fail
          go_ret
          exact ⟨ret_bool (HBi.out (by rw [HA2.out]; simp)).symm, B1.out⟩
        | true =>
          by_cases hk : k = 3
          · subst hk
            cases hl : M l with
            | none =>
              have hh : Maps.has D (keyS l) = false := by rw [HLk.out.1, hl]; rfl
              have HX : Hid (r = false) := Lib.hid (HBi.out (by rw [HA2.out, hl]; simp))
              clear HA2 HBi HSi HLk hl HN
              go_wp2_with (at_lookup; refine wpList_lookup_own_ok_int _ rfl _ _ 54 rfl 9 3 .i64 lawS Try.underlying54 Try.underlying3 (zeroN _) w.heap.size i D rfl O1.out _ _ rfl (key_of kl) ?_; intro c' _ _)
              go_ret
              exact ⟨ret_bool HX.out.symm, B1.out⟩
            | some x =>
              have hh : Maps.has D (keyS l) = true := by rw [HLk.out.1, hl]; rfl
              have HT := Lib.hid (HLk.out.2 x hl)
              by_cases hx : x = 0
              · subst hx
                have HS := Lib.hid (HSi.out (by rw [HA2.out, hl]; simp))
                clear HA2 HBi HSi HLk hl
                go_wp2_with (first | (at_lookup; refine wpList_lookup_own_ok_int _ rfl _ _ 54 rfl 9 3 .i64 lawS Try.underlying54 Try.underlying3 (zeroN _) w.heap.size i D rfl O1.out _ _ rfl (key_of kl) ?_; intro c' hat _; obtain rfl : c' = 0 := (by have := hat.symm.trans HT.out; simpa using this); clear hat) | (at_mapUpdate; refine wpList_mapUpdate_own _ rfl _ _ _ 54 rfl 9 3 lawS Try.underlying54 _ w.heap.size i D rfl O1.out (by simp only [maxLen]; omega) _ _ _ rfl rfl (key_of kp) _ [] (plainElem_int Try.underlying3 (by decide)) ?_; intro w2 hown2 hgrow2))
                have HM2 : Hid (MapAt w2 w.heap.size (i + 1) (kindOf (L.take (i + 1)))) := Lib.hid (by rw [HN.out]; exact ⟨_, hown2, HD.out.put p 3⟩)
                have B2 : Hid (Below w.heap.size w w2) := Lib.hid (B1.out.grown hgrow2 hsz1 (fun b hb => by cases hb; exact Nat.le_refl _))
                clear hown2 hgrow2 HN HT hh
                go_wp2_with fail
                go_roundw
                case rel => exact ⟨i + 1, by go_num, by omega, HS.out, HM2.out, B2.out⟩
                case measure => simp [intOf]; omega
              · have HX : Hid (r = false) := Lib.hid (HBi.out (by rw [HA2.out, hl]; simp [hx]))
                have hx2 : (x != 0) = true := by simpa using hx
                clear HA2 HBi HSi HLk hl HN hx
                go_wp2_with (at_lookup; refine wpList_lookup_own_ok_int _ rfl _ _ 54 rfl 9 3 .i64 lawS Try.underlying54 Try.underlying3 (zeroN _) w.heap.size i D rfl O1.out _ _ rfl (key_of kl) ?_; intro c' hat _; obtain rfl : c' = x := (by have := hat.symm.trans HT.out; simpa using this); clear hat)
                go_ret
                exact ⟨ret_bool HX.out.symm, B1.out⟩
          · have HS := Lib.hid (HSi.out (by rw [HA2.out]; simp [hk]))
            have hk2 : (k == 3) = false := by simpa using hk
            have hk3 : decide (k = 3) = false := by simpa using hk
            have hwk : (Lit.int .i64 k).wf = true := WalkArith.wf_i64 (HKd.out rfl)
            clear HA2 HBi HSi HLk hk
            go_wp2_with (first | (at_lookup; refine wpList_lookup_own_ok_int _ rfl _ _ 54 rfl 9 3 .i64 lawS Try.underlying54 Try.underlying3 (zeroN _) w.heap.size i D rfl O1.out _ _ rfl (key_of kl) ?_; intro c' _ _) | (at_mapUpdate; refine wpList_mapUpdate_own _ rfl _ _ _ 54 rfl 9 3 lawS Try.underlying54 _ w.heap.size i D rfl O1.out (by simp only [maxLen]; omega) _ _ _ rfl rfl (key_of kp) _ [] (plainElem_int Try.underlying3 hwk) ?_; intro w2 hown2 hgrow2))
            have HM2 : Hid (MapAt w2 w.heap.size (i + 1) (kindOf (L.take (i + 1)))) := Lib.hid (by rw [HN.out]; exact ⟨_, hown2, HD.out.put p k⟩)
            have B2 : Hid (Below w.heap.size w w2) := Lib.hid (B1.out.grown hgrow2 hsz1 (fun b hb => by cases hb; exact Nat.le_refl _))
            clear hown2 hgrow2 HN
            go_wp2_with fail
            go_roundw
            case rel => exact ⟨i + 1, by go_num, by omega, HS.out, HM2.out, B2.out⟩
            case measure => simp [intOf]; omega
    · obtain rfl : i = n := by omega
      have hlt2 : ¬ (i : Int) < (i : Int) := by omega
      have HFin := Lib.hid (HDone.out HR.out (by omega))
      go_wp2_with fail
      go_ret
      exact ⟨ret_bool HFin.out.symm, B.out⟩
end Go.Proofs.Ytlbanaakjabfnab
