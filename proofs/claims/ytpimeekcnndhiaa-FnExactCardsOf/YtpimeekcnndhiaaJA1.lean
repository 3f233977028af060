/- Texts joined: ListOkI, MapI, CardsI, CardsOfELaw. -/
import Derived.Test.YtpimeekcnndhiaaKindMath
import Derived.Test.YtpimeekcnndhiaaEntOkI
import Derived.Test.YtpimeekcnndhiaaEntAt
import Derived.Test.YtpimeekcnndhiaaCom
import Derived.Maps.OwnSet
import Derived.Maps.OwnOps
import Derived.Test.YtpimeekcnndhiaaCardOf
import Derived.Test.YtpimeekcnndhiaaLawE
import Derived.Test.YtpimeekcnndhiaaHeldE
import Derived.Test.YtpimeekcnndhiaaOwnO
import Derived.Test.YtpimeekcnndhiaaMergeE
import Derived.Test.YtpimeekcnndhiaaCardM
import Derived.Test.YtpimeekcnndhiaaCardsS
/- Contract of impl.ListOk. -/
namespace Go.Proofs.Ytpimeekcnndhiaa
open Go.ChangeShapes Go.WideShapes Go.ChangeAt Go.RowKit Go.Deep Go.Maps

theorem listOk_long {L : List Ent} (h : 30 < L.length) : listOkv L = false := by
  rw [listOkv, decide_eq_false (by omega)]; simp
set_option maxHeartbeats 1600000 in
theorem listOk_impl (L : List Ent) (n g cap : Nat) (w : World) (hn : n = L.length) (hm : n ≤ 4194304) (hg : g < w.heap.size) (hsm : SmallL L) (h1 : RowE w g L) :
    Calls Try.prog 30 #[.slice (some ⟨g, 0, none⟩) n cap] w fun e w' => e = .returned (.bool (listOkv L)) ∧ Below w.heap.size w w' := by
  have H1 := Lib.hid h1
  have HG : Hid (∀ i, i < n → ∃ e, L[i]? = some e ∧ esz e ≤ 4194304) := Lib.hid (fun i hi => by obtain ⟨e, he⟩ := getE' (L := L) (i := i) (by omega); exact ⟨e, he, hsm.get he⟩)
  have HBad : Hid (∀ i e, L[i]? = some e → entAtOk L i e = false → listOkv L = false) := Lib.hid (fun i e he hk => listOk_bad he hk)
  have HDone : Hid (OksTo L n → n ≤ 30 → listOkv L = true) := Lib.hid (by rw [hn]; intro h h2; rw [listOk_done h]; simpa using h2)
  have HLong : Hid (30 < n → listOkv L = false) := Lib.hid (by rw [hn]; exact listOk_long)
  generalize listOkv L = r at HBad HDone HLong
  clear h1 hn hsm
  by_cases h30 : 30 < n
  · have h30' : (30 : Int) < (n : Int) := by omega
    have HX := Lib.hid (HLong.out h30)
    go_enter Try.func30, Try.ntmps30
    go_wp2_with fail
    go_ret
    exact ⟨ret_bool HX.out.symm, Below.refl _ _⟩
  have h30' : ¬ (30 : Int) < (n : Int) := by omega
  have hmm := @run_makeMap Try.prog
  go_enter Try.func30, Try.ntmps30
  go_wp2_with fail
  go_loopw [5, 6, 7, 8, 9, 16] (fun _ _ _ _ _ u wr => ∃ i : Nat, u = .int .i64 i ∧ i ≤ n ∧ OksTo L i ∧ MapAt wr w.heap.size i (kindOf (L.take i)) ∧ Below w.heap.size w wr) (fun _ _ _ _ _ u _ => n - (intOf u).toNat)
  case atStart => exact ⟨0, rfl, Nat.zero_le _, fun j hj => by omega, by rw [kindOf_zero]; exact mapAt_made w, (Below.refl _ _).alloc (Nat.le_refl _) _⟩
  case round =>
    obtain ⟨i, rfl, hi, hr, hmap, hb⟩ := hrel
    have HR := Lib.hid hr
    have B := Lib.hid hb
    have HMp := Lib.hid hmap
    have zm := hmap.lt
    clear hr hb hmap hmm
    by_cases hlt : i < n
    · have hlt2 : (i : Int) < (n : Int) := by omega
      obtain ⟨e, he, hz⟩ := HG.out i hlt
      have R := Lib.hid (H1.out.below B.out hg)
      obtain ⟨c0, c1, c2, c3, c4, c5, c6, c7, c8, c9⟩ := R.out.ten he
      have HBi := Lib.hid (HBad.out i e he)
      have HSi := Lib.hid (fun hk => HR.out.step he hk)
      have HA := Lib.hid (entAtOk_kind he)
      have HK := Lib.hid (fun h => kindOf_snoc he h)
      clear he HBad HG HR
      have hsz := small_parts hz
      generalize kindOf (L.take i) = M at HMp HA HK
      obtain ⟨k, p, l, m, u, g0, t, us, gr, b⟩ := e
      have HO := Lib.hid (fun w => entryOk_impl k p l m u g0 t us gr b w hsz.1 hsz.2.1 hsz.2.2.1 hsz.2.2.2.1)
      dsimp only at hsz
      have kp : p.size ≤ maxLen := by have := hsz.1; simp only [maxLen]; omega
      have kl : l.size ≤ maxLen := by have := hsz.2.1; simp only [maxLen]; omega
      have HKd := Lib.hid (entOk_kind ⟨k, p, l, m, u, g0, t, us, gr, b⟩)
      generalize entAtOk L i ⟨k, p, l, m, u, g0, t, us, gr, b⟩ = ra at HA HBi HSi
      generalize entOkv ⟨k, p, l, m, u, g0, t, us, gr, b⟩ = b1 at HA HO HKd
      dsimp only at HA HK HKd
      clear hsz hz
      have zr : g < wr.heap.size := by have := B.out.size; omega
      obtain ⟨D, ho, hD⟩ := HMp.out
      have OM := Lib.hid ho
      have HD := Lib.hid hD
      clear ho hD HMp
      have HP := Lib.hid (HD.out.2 p).1
      have HLk := Lib.hid (HD.out.2 l)
      cases hp : M p with
      | some x =>
        have hh : Maps.has D (keyS p) = true := by rw [HP.out, hp]; rfl
        have HX : Hid (r = false) := Lib.hid (HBi.out (by rw [HA.out, hp]; simp))
        clear HA HK HP HLk HBi HSi HO HD hp
        go_wp2_with (at_lookup; refine wpList_lookup_own_ok_int _ rfl _ _ 71 rfl 9 3 .i64 lawS Try.underlying71 Try.underlying3 (zeroN _) w.heap.size i D rfl (OM.out.alloc _) _ _ rfl (key_of kp) ?_; intro c _ _)
        go_ret
        exact ⟨ret_bool HX.out.symm, B.out.alloc B.out.size _⟩
      | none =>
        have hh : Maps.has D (keyS p) = false := by rw [HP.out, hp]; rfl
        have HN := Lib.hid (HK.out hp)
        have HA2 : Hid (ra = (b1 && (if k = 3 then decide (M l = some 0) else true))) := Lib.hid (by rw [HA.out, hp]; simp)
        clear HA HK HP hp
        go_wp2_with (at_lookup; refine wpList_lookup_own_ok_int _ rfl _ _ 71 rfl 9 3 .i64 lawS Try.underlying71 Try.underlying3 (zeroN _) w.heap.size i D rfl (OM.out.alloc _) _ _ rfl (key_of kp) ?_; intro c _ _)
        refine (HO.out _).mono ?_
        rintro e w1 ⟨rfl, hb⟩
        have O1 := Lib.hid (ownsMap_below (OM.out.alloc _) hb)
        obtain ⟨k1, bb, z1⟩ := one_new (e1 := ⟨k, p, l, m, u, g0, t, us, gr, b⟩) hb
        have E1 := Lib.hid k1
        have B1 := Lib.hid (btE B.out bb)
        clear hb k1 bb c0 c1 c2 c3 c4 c5 c6 c7 c8 c9 R B HO OM hh
        obtain ⟨c0, c1, c2, c3, c4, c5, c6, c7, c8, c9⟩ := E1.out.zero
        have hsz1 := B1.out.size
        cases b1 with
        | false =>
          go_wp2_with fail
          go_ret
          exact ⟨ret_bool (HBi.out (by rw [HA2.out]; simp)).symm, B1.out⟩
        | true =>
          by_cases hk : k = 3
          · subst hk
            cases hl : M l with
            | none =>
              have hh : Maps.has D (keyS l) = false := by rw [HLk.out.1, hl]; rfl
              have HX : Hid (r = false) := Lib.hid (HBi.out (by rw [HA2.out, hl]; simp))
              clear HA2 HBi HSi HLk hl HN
              go_wp2_with (at_lookup; refine wpList_lookup_own_ok_int _ rfl _ _ 71 rfl 9 3 .i64 lawS Try.underlying71 Try.underlying3 (zeroN _) w.heap.size i D rfl O1.out _ _ rfl (key_of kl) ?_; intro c' _ _)
              go_ret
              exact ⟨ret_bool HX.out.symm, B1.out⟩
            | some x =>
              have hh : Maps.has D (keyS l) = true := by rw [HLk.out.1, hl]; rfl
              have HT := Lib.hid (HLk.out.2 x hl)
              by_cases hx : x = 0
              · subst hx
                have HS := Lib.hid (HSi.out (by rw [HA2.out, hl]; simp))
                clear HA2 HBi HSi HLk hl
                go_wp2_with (first | (at_lookup; refine wpList_lookup_own_ok_int _ rfl _ _ 71 rfl 9 3 .i64 lawS Try.underlying71 Try.underlying3 (zeroN _) w.heap.size i D rfl O1.out _ _ rfl (key_of kl) ?_; intro c' hat _; obtain rfl : c' = 0 := (by have := hat.symm.trans HT.out; simpa using this); clear hat) | (at_mapUpdate; refine wpList_mapUpdate_own _ rfl _ _ _ 71 rfl 9 3 lawS Try.underlying71 _ w.heap.size i D rfl O1.out (by simp only [maxLen]; omega) _ _ _ rfl rfl (key_of kp) _ [] (plainElem_int Try.underlying3 (by decide)) ?_; intro w2 hown2 hgrow2))
                have HM2 : Hid (MapAt w2 w.heap.size (i + 1) (kindOf (L.take (i + 1)))) := Lib.hid (by rw [HN.out]; exact ⟨_, hown2, HD.out.put p 3⟩)
                have B2 : Hid (Below w.heap.size w w2) := Lib.hid (B1.out.grown hgrow2 hsz1 (fun b hb => by cases hb; exact Nat.le_refl _))
                clear hown2 hgrow2 HN HT hh
                go_wp2_with fail
                go_roundw
                case rel => exact ⟨i + 1, by go_num, by omega, HS.out, HM2.out, B2.out⟩
                case measure => simp [intOf]; omega
              · have HX : Hid (r = false) := Lib.hid (HBi.out (by rw [HA2.out, hl]; simp [hx]))
                have hx2 : (x != 0) = true := by simpa using hx
                clear HA2 HBi HSi HLk hl HN hx
                go_wp2_with (at_lookup; refine wpList_lookup_own_ok_int _ rfl _ _ 71 rfl 9 3 .i64 lawS Try.underlying71 Try.underlying3 (zeroN _) w.heap.size i D rfl O1.out _ _ rfl (key_of kl) ?_; intro c' hat _; obtain rfl : c' = x := (by have := hat.symm.trans HT.out; simpa using this); clear hat)
                go_ret
                exact ⟨ret_bool HX.out.symm, B1.out⟩
          · have HS := Lib.hid (HSi.out (by rw [HA2.out]; simp [hk]))
            have hk2 : (k == 3) = false := by simpa using hk
            have hk3 : decide (k = 3) = false := by simpa using hk
            have hwk : (Lit.int .i64 k).wf = true := WalkArith.wf_i64 (HKd.out rfl)
            clear HA2 HBi HSi HLk hk
            go_wp2_with (first | (at_lookup; refine wpList_lookup_own_ok_int _ rfl _ _ 71 rfl 9 3 .i64 lawS Try.underlying71 Try.underlying3 (zeroN _) w.heap.size i D rfl O1.out _ _ rfl (key_of kl) ?_; intro c' _ _) | (at_mapUpdate; refine wpList_mapUpdate_own _ rfl _ _ _ 71 rfl 9 3 lawS Try.underlying71 _ w.heap.size i D rfl O1.out (by simp only [maxLen]; omega) _ _ _ rfl rfl (key_of kp) _ [] (plainElem_int Try.underlying3 hwk) ?_; intro w2 hown2 hgrow2))
            have HM2 : Hid (MapAt w2 w.heap.size (i + 1) (kindOf (L.take (i + 1)))) := Lib.hid (by rw [HN.out]; exact ⟨_, hown2, HD.out.put p k⟩)
            have B2 : Hid (Below w.heap.size w w2) := Lib.hid (B1.out.grown hgrow2 hsz1 (fun b hb => by cases hb; exact Nat.le_refl _))
            clear hown2 hgrow2 HN
            go_wp2_with fail
            go_roundw
            case rel => exact ⟨i + 1, by go_num, by omega, HS.out, HM2.out, B2.out⟩
            case measure => simp [intOf]; omega
    · obtain rfl : i = n := by omega
      have hlt2 : ¬ (i : Int) < (i : Int) := by omega
      have HFin := Lib.hid (HDone.out HR.out (by omega))
      go_wp2_with fail
      go_ret
      exact ⟨ret_bool HFin.out.symm, B.out⟩
end Go.Proofs.Ytpimeekcnndhiaa

/- Maps from numbers to numbers that a call makes: how often each number has come. -/
namespace Go.Proofs.Ytpimeekcnndhiaa
open Go.ChangeShapes Go.WideShapes Go.ChangeAt Go.RowKit Go.Maps

theorem lawIn : Keyed Try.prog 3 := int_keyed Try.underlying3
theorem zeroIn (w : World) : (zeroValue 3).run Try.prog w = .ok (.int .i64 0) w := by kernel_rfl
def keyIn (x : Int) : Lit := .int .i64 x
theorem wf_in {x : Int} (h0 : -9223372036854775808 ≤ x) (h1 : x ≤ 9223372036854775807) : (Lit.int .i64 x).wf = true := WalkArith.wf_i64 (by omega)
theorem key_in {x : Int} (h0 : -9223372036854775808 ≤ x) (h1 : x ≤ 9223372036854775807) : keyOf Try.prog 3 (.int .i64 x) = some (keyIn x) := keyOf_int_mk Try.underlying3 (wf_in h0 h1)
theorem keyIn_ne {a b : Int} (h : ¬ a = b) : keyIn a ≠ keyIn b := by
  intro e
  apply h
  simpa [keyIn] using e
/-- What the map D tells of each number; 0 where it does not hold it. -/
def CntIs (D : DataW Unit) (M : Int → Int) : Prop := IsMap D ∧ ∀ x, D.atKey (keyIn x) (.lit (.int .i64 0)) = .lit (.int .i64 (M x))
def CntAt (w : World) (b n : Nat) (M : Int → Int) : Prop := ∃ D : DataW Unit, w.ownsMap Try.prog 3 (plainElem Try.prog 3) b n D ∧ CntIs D M
def putN (M : Int → Int) (x c : Int) : Int → Int := fun y => if y = x then c else M y
theorem CntIs.put {D : DataW Unit} {M : Int → Int} (h : CntIs D M) (x c : Int) : CntIs (D.put (keyIn x) (.lit (.int .i64 c))) (putN M x c) := by
  refine ⟨h.1.put _ _, fun y => ?_⟩
  by_cases e : y = x
  · subst e
    rw [Maps.atKey_put_same h.1 (show WideAt.IsKeyLit (keyIn y) from trivial)]
    simp [putN]
  · rw [Maps.atKey_put_other (keyIn_ne e), h.2 y]
    simp [putN, e]
theorem cnt_made (w : World) : CntAt (w.alloc (.map #[] 0)) w.heap.size 0 (fun _ => 0) := ⟨.map [], World.ownsMap_made w _ _ _, isMap_empty, fun _ => rfl⟩
theorem CntAt.kept {w w' : World} {b n : Nat} {M : Int → Int} {row : Option Nat} (h : CntAt w b n M) (hg : w.grownBy w' row) (hne : some b ≠ row) : CntAt w' b n M := by
  obtain ⟨D, ho, hs⟩ := h
  exact ⟨D, World.ownsMap.kept ho hg hne, hs⟩
theorem CntAt.below {w w' : World} {b n : Nat} {M : Int → Int} (h : CntAt w b n M) (hb : Below w.heap.size w w') : CntAt w' b n M := by
  obtain ⟨D, ho, hs⟩ := h
  exact ⟨D, World.ownsMap.kept ho (row := none) ⟨hb.os, hb.tape, hb.output, hb.size, fun k hk _ => hb.block k hk⟩ (by simp), hs⟩
theorem CntAt.lt {w : World} {b n : Nat} {M : Int → Int} (h : CntAt w b n M) : b < w.heap.size := by
  obtain ⟨D, ho, _⟩ := h
  exact World.ownsMap.lt ho
end Go.Proofs.Ytpimeekcnndhiaa

/- Contract of impl.CardsOf. -/
namespace Go.Proofs.Ytpimeekcnndhiaa
open Go.ChangeShapes Go.WideShapes Go.ChangeAt Go.RowKit Go.Deep Go.Maps

theorem card_map_ne {w : World} {base b n : Nat} {v : Value} {L : List Card} {M : Int → Int} (o : OwnC w base v L) (c : CntAt w b n M) : some b ≠ v.ownBlock := by
  intro e
  obtain ⟨D, ⟨es, clock, hb, F, hs, rfl⟩, _⟩ := c
  obtain ⟨⟨_, h2⟩, g, cap, rfl⟩ := o
  rcases h2 with ⟨h0, _⟩ | ⟨g', cap', cur, hv, hg, hh, _⟩
  · cases h0
  · cases hv
    simp [Value.ownBlock] at e
    subst e
    rw [hb] at hh
    cases hh
/-- The cards without their counts. -/
def cardsP (L : List Ent) : Nat → List Card
  | 0 => []
  | n + 1 => cardsP L n ++ [cardOfv (inov L n (L.getD n entD)) (L.getD n entD)]
theorem cardsP_len (L : List Ent) (n : Nat) : (cardsP L n).length = n := by
  induction n with
  | zero => rfl
  | succ n ih => simp [cardsP, ih]
theorem cardsP_step {L : List Ent} {i : Nat} {e : Ent} (he : L[i]? = some e) : cardsP L (i + 1) = cardsP L i ++ [cardOfv (inov L i e) e] := by rw [cardsP, getD_of he]
theorem cardsP_get (L : List Ent) (n i : Nat) {e : Ent} (he : L[i]? = some e) (h : i < n) : (cardsP L n)[i]? = some (cardOfv (inov L i e) e) := by
  induction n with
  | zero => omega
  | succ n ih =>
    rw [cardsP]
    by_cases q : i = n
    · subst q
      rw [List.getElem?_append_right (by rw [cardsP_len]; omega), cardsP_len, getD_of he]
      simp
    · rw [List.getElem?_append_left (by rw [cardsP_len]; omega)]
      exact ih (by omega)
/-- The cards of which the first i have their counts. -/
def cardsQ (L : List Ent) (n i : Nat) : List Card := cardsTo L i ++ (cardsP L n).drop i
theorem cardsQ_len {L : List Ent} {n i : Nat} (h : i ≤ n) : (cardsQ L n i).length = n := by
  simp [cardsQ, cardsTo_len, cardsP_len]
  omega
theorem cardsQ_zero (L : List Ent) (n : Nat) : cardsQ L n 0 = cardsP L n := by simp [cardsQ, cardsTo]
theorem cardsQ_all (L : List Ent) (n : Nat) : cardsQ L n n = cardsTo L n := by
  rw [cardsQ, List.drop_eq_nil_of_le (by rw [cardsP_len]; omega), List.append_nil]
theorem cardsQ_at {L : List Ent} {n i : Nat} {e : Ent} (he : L[i]? = some e) (h : i < n) : cardsQ L n i = cardsTo L i ++ cardOfv (inov L i e) e :: (cardsP L n).drop (i + 1) := by
  have hlt : i < (cardsP L n).length := by rw [cardsP_len]; exact h
  have hg := cardsP_get L n i he h
  rw [List.getElem?_eq_getElem hlt] at hg
  rw [cardsQ, List.drop_eq_getElem_cons hlt, Option.some.inj hg]
def withCount (c : Card) (n : Int) : Card := ⟨c.Ino, c.Mode, c.Uid, c.Gid, n, c.Time, c.Path, c.Data⟩
theorem cardsQ_succ {L : List Ent} {n i : Nat} {e : Ent} (he : L[i]? = some e) : cardsQ L n (i + 1) = cardsTo L i ++ cardv L i e :: (cardsP L n).drop (i + 1) := by
  rw [cardsQ, cardsTo, getD_of he]
  simp
theorem valsC_setCount (A B : List Card) (c : Card) (n : Int) : (valsC (A ++ c :: B)).set (A.length * 8 + 4) (.int .i64 n) = valsC (A ++ withCount c n :: B) := by
  rw [valsC_app, valsC_app, List.set_append_right _ _ (by rw [valsC_len]; omega), valsC_len]
  congr 1
  rw [show A.length * 8 + 4 - A.length * 8 = 4 from by omega]
  rfl
theorem rowC_count {w : World} {base g cap : Nat} {A B : List Card} {c : Card} {n N : Nat} (hN : N = (A ++ c :: B).length) (h : OwnC w base (.slice (some ⟨g, 0, none⟩) N cap) (A ++ c :: B)) (hn : n = A.length) (x : Int) : OwnC (w.setCell ⟨g, n * 8 + 4, none⟩ (.int .i64 x)) base (.slice (some ⟨g, 0, none⟩) N cap) (A ++ withCount c x :: B) := by
  subst hN hn
  obtain ⟨ho, g', cap', hv⟩ := h
  cases hv
  have h1 := (World.ownsRow.stored ho (A.length * 8 + 4) (.int .i64 x)).1
  rw [valsC_setCount] at h1
  have hl : (A ++ withCount c x :: B).length = (A ++ c :: B).length := by simp
  exact ⟨by rw [hl]; exact h1, g, cap, by rw [hl]⟩
theorem count_put {L : List Ent} {i : Nat} {e : Ent} (he : L[i]? = some e) : putN (fun x => ((countTo L x i : Nat) : Int)) (inov L i e) ((countTo L (inov L i e) i : Nat) + 1) = fun x => ((countTo L x (i + 1) : Nat) : Int) := by
  funext y
  rw [countTo, inoAt_of he, putN]
  by_cases h : y = inov L i e
  · rw [if_pos h, if_pos h.symm, h]
    push_cast
    rfl
  · rw [if_neg h, if_neg (fun e => h e.symm)]
    simp
theorem card_full {L : List Ent} (hL : listOkv L = true) {i : Nat} {e : Ent} (he : L[i]? = some e) : cardv L i e = withCount (cardOfv (inov L i e) e) (if e.kind = 1 then 2 else (countTo L (inov L i e) L.length : Nat)) := by
  have hk := (entOk_facts (listOk_at hL he).1).2.2.2.2
  unfold cardv withCount cardOfv
  congr 1
  by_cases h1 : e.kind = 1
  · rw [if_pos h1]
    rcases kind_facts hk with h | h | h | h
    · omega
    · rw [datav, if_neg (by omega), ba_nil h.2.2]
    · omega
    · omega
  · rw [if_neg h1]
set_option maxHeartbeats 6400000 in
set_option maxRecDepth 8000 in
theorem cardsOf_impl (L : List Ent) (n g cap : Nat) (w : World) (hn : n = L.length) (hm : n ≤ 4194304) (hcap : n ≤ cap) (hg : g < w.heap.size) (hsm : SmallL L) (h1 : RowE w g L) :
    Calls Try.prog 10 #[.slice (some ⟨g, 0, none⟩) n cap] w fun e w' => ∃ v, e = .returned v ∧ OwnC w' w.heap.size v (cardsv L) ∧ Below w.heap.size w w' := by
  obtain ⟨i0, hi0, hz0, hz1, hz2⟩ := info_parts Try.infoC
  have H1 := Lib.hid h1
  have HK := Lib.hid (fun w (hg : g < w.heap.size) (h : RowE w g L) => listOk_impl L n g cap w hn hm hg hsm h)
  have HI := Lib.hid (fun (i : Nat) (e : Ent) w he (hg : g < w.heap.size) (h : RowE w g L) => ino_impl L i e n g cap w he hn hm hg h)
  have HV : Hid (cardsv L = if listOkv L then cardsTo L n else []) := Lib.hid (by rw [hn]; rfl)
  have HE : Hid (listOkv L = true → ∀ i, i < n → ∃ e, L[i]? = some e ∧ (0 ≤ e.mode ∧ e.mode ≤ 4095) ∧ (1 ≤ inov L i e ∧ inov L i e ≤ 31) ∧ esz e ≤ 4194304) := Lib.hid (fun hL i hi => by
    obtain ⟨e, he⟩ := getE' (L := L) (i := i) (by omega)
    obtain ⟨hM, _, _, _, hk⟩ := entOk_facts (listOk_at hL he).1
    have h1 := ino_bounds hL he
    have h2 := listOk_len hL
    exact ⟨e, he, hM, by omega, hsm.get he⟩)
  have HN : Hid (listOkv L = true → n ≤ 30) := Lib.hid (fun h => by rw [hn]; exact listOk_len h)
  have HP : Hid (∀ i e, L[i]? = some e → cardsP L (i + 1) = cardsP L i ++ [cardOfv (inov L i e) e]) := Lib.hid (fun i e he => cardsP_step he)
  have HPl := Lib.hid (fun i => cardsP_len L i)
  have HCl := Lib.hid (fun x i => countTo_le L x i)
  have HCp := Lib.hid (fun i e (he : L[i]? = some e) => count_put he)
  have HZ : Hid (cardsP L 0 = [] ∧ (fun x => ((countTo L x 0 : Nat) : Int)) = fun _ => 0) := Lib.hid ⟨rfl, rfl⟩
  have HFu : Hid (listOkv L = true → ∀ i e, L[i]? = some e → cardv L i e = withCount (cardOfv (inov L i e) e) (if e.kind = 1 then 2 else (countTo L (inov L i e) n : Nat))) := Lib.hid (fun hL i e he => by rw [hn]; exact card_full hL he)
  have HQa := Lib.hid (fun i e (he : L[i]? = some e) h => cardsQ_at (n := n) he h)
  have HQs := Lib.hid (fun i e (he : L[i]? = some e) => cardsQ_succ (n := n) he)
  have HQl := Lib.hid (fun i h => cardsQ_len (L := L) (n := n) (i := i) h)
  have HQz := Lib.hid (cardsQ_zero L n)
  have HQe := Lib.hid (cardsQ_all L n)
  have HTl := Lib.hid (fun i => cardsTo_len L i)
  generalize cardsv L = r at HV
  generalize listOkv L = ok at HK HV HE HN HFu
  clear h1 hsm hn
  have hmm := @run_makeMap Try.prog
  go_enter Try.func10, Try.ntmps10
  go_wp2_with fail
  refine (HK.out _ (by simp; omega) (H1.out.below ((Below.refl _ _).alloc (Nat.le_refl _) _) hg)).mono ?_
  rintro e w1 ⟨rfl, hb⟩
  have B0 : Below w.heap.size w (w.alloc (.cells #[] 47)) := (Below.refl _ _).alloc (Nat.le_refl _) _
  have B := Lib.hid (btE B0 hb)
  have O := Lib.hid ((OwnC.lit (w := w) (base := w.heap.size) (Nat.le_refl _)).keep hb)
  clear hb B0
  cases ok with
  | false =>
    have HF : Hid (r = []) := Lib.hid (by rw [HV.out]; rfl)
    go_wp2_with fail
    go_ret
    exact ⟨_, rfl, by rw [HF.out]; exact O.out, B.out⟩
  | true =>
    have HF : Hid (r = cardsTo L n) := Lib.hid (by rw [HV.out]; rfl)
    have hn30 := HN.out rfl
    have HE2 := Lib.hid (HE.out rfl)
    have HF2 := Lib.hid (HFu.out rfl)
    clear HV HE HN HK HFu
    have NB : Below w1.heap.size w1 (w1.alloc (.map #[] 0)) := (Below.refl _ _).alloc (Nat.le_refl _) _
    have C0 := Lib.hid (cnt_made w1)
    have O1 := Lib.hid (O.out.keep NB)
    have B1 := Lib.hid (btE B.out NB)
    have hmb := B.out.size
    clear NB O B
    obtain ⟨mb, hmbe⟩ : ∃ b, w1.heap.size = b := ⟨_, rfl⟩
    rw [hmbe] at C0 hmb
    go_wp2_with fail
    clear hmbe
    go_loopw [3, 5, 6, 7, 18] (fun v _ _ _ u wr => ∃ i : Nat, u = .int .i64 i ∧ i ≤ n ∧ OwnC wr w.heap.size v (cardsP L i) ∧ CntAt wr mb i (fun x => ((countTo L x i : Nat) : Int)) ∧ Below w.heap.size w wr) (fun _ _ _ _ u _ => n - (intOf u).toNat)
    case atStart => exact ⟨0, rfl, Nat.zero_le _, by rw [HZ.out.1]; exact O1.out, by rw [HZ.out.2]; exact C0.out, B1.out⟩
    case round =>
      obtain ⟨i, rfl, hi, ho, hc, hb⟩ := hrel
      obtain ⟨wo, hwo⟩ : ∃ wo, wo = wr := ⟨_, rfl⟩
      subst hwo
      have O := Lib.hid ho
      have CM := Lib.hid hc
      have B := Lib.hid hb
      have hsz := B.out.size
      have hmo := CM.out.lt
      clear ho hc hb O1 C0 B1
      by_cases hlt : i < n
      · have hlt2 : (i : Int) < (n : Int) := by omega
        obtain ⟨e, he, hmd, hxd, hz⟩ := HE2.out i hlt
        have HI2 := Lib.hid (fun w hg h => HI.out i e w he hg h)
        have HP2 := Lib.hid (HP.out i e he)
        have HPl2 := HPl.out i
        have HCp2 := Lib.hid (HCp.out i e he)
        have hcb := HCl.out (inov L i e) i
        have R := Lib.hid (H1.out.below B.out hg)
        have zg : g < wo.heap.size := by omega
        have HCd := Lib.hid (fun w => cardOf_impl e (inov L i e) w hz hmd.1 hmd.2)
        obtain ⟨c0, c1, c2, c3, c4, c5, c6, c7, c8, c9⟩ := R.out.ten he
        clear he HP HCp hz hmd
        obtain ⟨go, co, rfl, _, zo, hbo, _⟩ := O.out.open
        generalize inov L i e = x at HI2 HP2 HCp2 HCd hcb hxd
        obtain ⟨D, hD⟩ : ∃ D, cardsP L i = D := ⟨_, rfl⟩
        rw [hD] at HP2 O HPl2 ⊢
        have hDl : D.length ≤ 30 := by omega
        clear hD HPl2
        obtain ⟨k, p, l, m, u1, gi, t, us, gr, b⟩ := e
        simp only [cardOfv, Card.cells, Ent.cells] at HCd HP2
        generalize m + modev k = mo at HCd HP2
        generalize (if k = 1 then (⟨#[]⟩ : ByteArray) else datav ⟨k, p, l, m, u1, gi, t, us, gr, b⟩) = dat at HCd HP2
        go_upto_region 8 with fail
        generalize hw5 : World.alloc wo _ = w5
        have NB : Below wo.heap.size wo w5 := by rw [← hw5]; exact (Below.refl _ _).alloc (Nat.le_refl _) _
        have XE : EntO w5 wo.heap.size ⟨k, p, l, m, u1, gi, t, us, gr, b⟩ := by rw [← hw5]; exact EntO.new wo ⟨k, p, l, m, u1, gi, t, us, gr, b⟩
        clear hw5 c0 c1 c2 c3 c4 c5 c6 c7 c8 c9
        replace O := Lib.hid (O.out.keep NB)
        replace CM := Lib.hid (CM.out.below NB)
        replace R := Lib.hid (R.out.below NB zg)
        replace B := Lib.hid (btE B.out NB)
        have zx := XE.lt
        have zg5 : g < w5.heap.size := Nat.lt_of_lt_of_le zg NB.size
        have HI3 := Lib.hid (fun w' (hb : Below w5.heap.size w5 w') => HI2.out w' (Nat.lt_of_lt_of_le zg5 hb.size) (R.out.below hb zg5))
        have KC : Hid (∀ w', Below w5.heap.size w5 w' → w'.cell? ⟨wo.heap.size, 0, none⟩ = some (.int .i64 k) ∧ w'.cell? ⟨wo.heap.size, 1, none⟩ = some (.string p) ∧ w'.cell? ⟨wo.heap.size, 2, none⟩ = some (.string l) ∧ w'.cell? ⟨wo.heap.size, 3, none⟩ = some (.int .i64 m) ∧ w'.cell? ⟨wo.heap.size, 4, none⟩ = some (.int .i64 u1) ∧ w'.cell? ⟨wo.heap.size, 5, none⟩ = some (.int .i64 gi) ∧ w'.cell? ⟨wo.heap.size, 6, none⟩ = some (.int .i64 t) ∧ w'.cell? ⟨wo.heap.size, 7, none⟩ = some (.string us) ∧ w'.cell? ⟨wo.heap.size, 8, none⟩ = some (.string gr) ∧ w'.cell? ⟨wo.heap.size, 9, none⟩ = some (.string b)) := Lib.hid (fun w' hb => by
          obtain ⟨d0, d1, d2, d3, d4, d5, d6, d7, d8, d9⟩ := (XE.below hb zx).at.zero
          exact ⟨d0, d1, d2, d3, d4, d5, d6, d7, d8, d9⟩)
        clear NB HI2 R
        refine wp_region_cut 6 (by kernel_rfl) (fun w' => Below w5.heap.size w5 w') (fun x y => Below x.heap.size x y) (vBxG 7 47 w5.heap.size #[.int .i64 0, .int .i64 0, .int .i64 0, .int .i64 0, .int .i64 0, .int .i64 0, .string ⟨#[]⟩, .string ⟨#[]⟩] (fun d v => match d with | 23 => v = .agg #[.int .i64 k, .string p, .string l, .int .i64 m, .int .i64 u1, .int .i64 gi, .int .i64 t, .string us, .string gr, .string b] | 24 => v = .slice (some ⟨g, 0, none⟩) n cap | 25 => v = .int .i64 (i : Int) | 26 => v = .int .i64 x | 27 => v = .agg #[.int .i64 x, .int .i64 mo, .int .i64 u1, .int .i64 gi, .int .i64 0, .int .i64 t, .string p, .string dat] | _ => True)) (by kernel_rfl) (by kernel_rfl) ((Below.refl _ _).drew) (vBxG_keep _ _ _ _ _) (by simp) ?hops ?hend
        case hops =>
          simp only [List.take_succ_cons, List.take_zero, List.forall_mem_cons]
          refine ⟨?o23, ?o24, ?o25, ?o26, ?o27, ?o7, fun _ h => by cases h⟩
          case o23 =>
            intro Q a w2 hC hV hI
            have e6 : a.eval (.tmp 6) = .pointer (some ⟨wo.heap.size, 0, none⟩) := (hI 6 (by simp [Op.operands]) (by kernel_rfl)).trans rfl
            have f6 : a.tmps.getD 6 undef = .pointer (some ⟨wo.heap.size, 0, none⟩) := e6
            have g6 : a.tmps[6]?.getD undef = .pointer (some ⟨wo.heap.size, 0, none⟩) := by rw [← Array.getD_eq_getD_getElem?]; exact e6
            have hK := KC.out w2 hC
            refine op_val (.agg #[.int .i64 k, .string p, .string l, .int .i64 m, .int .i64 u1, .int .i64 gi, .int .i64 t, .string us, .string gr, .string b]) ?_ hC (Below.refl _ _) (by intro d hd; cases hd; exact rfl)
            (clear hV hI hC; go_simp <;> (first | rfl | simp | (rw [IntKind.wrap_i64]; omega)))
          case o24 =>
            intro Q a w2 hC hV hI
            have e0 : a.eval (.tmp 0) = .slice (some ⟨g, 0, none⟩) n cap := (hI 0 (by simp [Op.operands]) (by kernel_rfl)).trans rfl
            have f0 : a.tmps.getD 0 undef = .slice (some ⟨g, 0, none⟩) n cap := e0
            have g0 : a.tmps[0]?.getD undef = .slice (some ⟨g, 0, none⟩) n cap := by rw [← Array.getD_eq_getD_getElem?]; exact e0
            refine op_val (.slice (some ⟨g, 0, none⟩) n cap) ?_ hC (Below.refl _ _) (by intro d hd; cases hd; exact rfl)
            (clear hV hI hC; go_simp <;> (first | rfl | simp | (rw [IntKind.wrap_i64]; omega)))
          case o25 =>
            intro Q a w2 hC hV hI
            have e5 : a.eval (.tmp 5) = .int .i64 (i : Int) := (hI 5 (by simp [Op.operands]) (by kernel_rfl)).trans rfl
            have f5 : a.tmps.getD 5 undef = .int .i64 (i : Int) := e5
            have g5 : a.tmps[5]?.getD undef = .int .i64 (i : Int) := by rw [← Array.getD_eq_getD_getElem?]; exact e5
            refine op_val (.int .i64 (i : Int)) ?_ hC (Below.refl _ _) (by intro d hd; cases hd; exact rfl)
            (clear hV hI hC; go_simp <;> (first | rfl | simp | (rw [IntKind.wrap_i64]; omega)))
          case o26 =>
            intro Q a w2 hC hV hI
            have e24 : a.eval (.tmp 24) = .slice (some ⟨g, 0, none⟩) n cap := hV 24 (by simp [Op.operands, Call.operands]) (by kernel_rfl)
            have f24 : a.tmps.getD 24 undef = .slice (some ⟨g, 0, none⟩) n cap := e24
            have g24 : a.tmps[24]?.getD undef = .slice (some ⟨g, 0, none⟩) n cap := by rw [← Array.getD_eq_getD_getElem?]; exact e24
            have e25 : a.eval (.tmp 25) = .int .i64 (i : Int) := hV 25 (by simp [Op.operands, Call.operands]) (by kernel_rfl)
            have f25 : a.tmps.getD 25 undef = .int .i64 (i : Int) := e25
            have g25 : a.tmps[25]?.getD undef = .int .i64 (i : Int) := by rw [← Array.getD_eq_getD_getElem?]; exact e25
            refine op_call (f := 32) (args := #[.slice (some ⟨g, 0, none⟩) n cap, .int .i64 (i : Int)]) (R := fun v y => v = .int .i64 x ∧ Below w2.heap.size w2 y) ?_ ((HI3.out w2 hC).mono ?_) ?_
            · (clear hV hI hC; go_simp <;> (first | rfl | simp | (rw [IntKind.wrap_i64]; omega)))
            · rintro e y ⟨rfl, hb⟩; exact ⟨_, rfl, rfl, hb⟩
            · rintro v y ⟨rfl, hb⟩; exact ⟨hC.trans (hb.mono hC.size), hb, by intro d hd; cases hd; exact rfl⟩
          case o27 =>
            intro Q a w2 hC hV hI
            have e23 : a.eval (.tmp 23) = .agg #[.int .i64 k, .string p, .string l, .int .i64 m, .int .i64 u1, .int .i64 gi, .int .i64 t, .string us, .string gr, .string b] := hV 23 (by simp [Op.operands, Call.operands]) (by kernel_rfl)
            have f23 : a.tmps.getD 23 undef = .agg #[.int .i64 k, .string p, .string l, .int .i64 m, .int .i64 u1, .int .i64 gi, .int .i64 t, .string us, .string gr, .string b] := e23
            have g23 : a.tmps[23]?.getD undef = .agg #[.int .i64 k, .string p, .string l, .int .i64 m, .int .i64 u1, .int .i64 gi, .int .i64 t, .string us, .string gr, .string b] := by rw [← Array.getD_eq_getD_getElem?]; exact e23
            have e26 : a.eval (.tmp 26) = .int .i64 x := hV 26 (by simp [Op.operands, Call.operands]) (by kernel_rfl)
            have f26 : a.tmps.getD 26 undef = .int .i64 x := e26
            have g26 : a.tmps[26]?.getD undef = .int .i64 x := by rw [← Array.getD_eq_getD_getElem?]; exact e26
            refine op_call (f := 31) (args := #[.agg #[.int .i64 k, .string p, .string l, .int .i64 m, .int .i64 u1, .int .i64 gi, .int .i64 t, .string us, .string gr, .string b], .int .i64 x]) (R := fun v y => v = .agg #[.int .i64 x, .int .i64 mo, .int .i64 u1, .int .i64 gi, .int .i64 0, .int .i64 t, .string p, .string dat] ∧ Below w2.heap.size w2 y) ?_ ((HCd.out w2).mono ?_) ?_
            · (clear hV hI hC; go_simp <;> (first | rfl | simp | (rw [IntKind.wrap_i64]; omega)))
            · rintro e y ⟨rfl, hb⟩; exact ⟨_, rfl, rfl, hb⟩
            · rintro v y ⟨rfl, hb⟩; exact ⟨hC.trans (hb.mono hC.size), hb, by intro d hd; cases hd; exact rfl⟩
          case o7 =>
            intro Q a w2 hC hV hI
            refine op_val (.pointer (some ⟨w2.heap.size, 0, none⟩)) (w' := w2.alloc (.cells #[.int .i64 0, .int .i64 0, .int .i64 0, .int .i64 0, .int .i64 0, .int .i64 0, .string ⟨#[]⟩, .string ⟨#[]⟩] 47)) ?_ (hC.alloc hC.size _) ((Below.refl _ _).alloc (Nat.le_refl _) _) ?_
            · (clear hV hI hC; go_simp <;> (first | rfl | simp | (rw [IntKind.wrap_i64]; omega)))
            · intro d hd; cases hd; exact ⟨w2.heap.size, rfl, hC.size, heap_lastG _ _⟩
        case hend =>
          intro f w6 hC hall
          simp only [List.take_succ_cons, List.take_zero, List.drop_succ_cons, List.drop_zero] at hall ⊢
          simp only [List.forall_mem_cons] at hall
          obtain ⟨h23, h24, h25, h26, h27, h7, _⟩ := hall
          replace h23 : f 23 = .agg #[.int .i64 k, .string p, .string l, .int .i64 m, .int .i64 u1, .int .i64 gi, .int .i64 t, .string us, .string gr, .string b] := h23 23 rfl
          replace h24 : f 24 = .slice (some ⟨g, 0, none⟩) n cap := h24 24 rfl
          replace h25 : f 25 = .int .i64 (i : Int) := h25 25 rfl
          replace h26 : f 26 = .int .i64 x := h26 26 rfl
          replace h27 : f 27 = .agg #[.int .i64 x, .int .i64 mo, .int .i64 u1, .int .i64 gi, .int .i64 0, .int .i64 t, .string p, .string dat] := h27 27 rfl
          obtain ⟨G7, hG7, hGB7, hGO7⟩ : ∃ G, f 7 = .pointer (some ⟨G, 0, none⟩) ∧ w5.heap.size ≤ G ∧ w6.heap[G]? = some (.cells #[.int .i64 0, .int .i64 0, .int .i64 0, .int .i64 0, .int .i64 0, .int .i64 0, .string ⟨#[]⟩, .string ⟨#[]⟩] 47 (0, 0)) := h7 7 rfl
          simp only [putAll, Act.put, List.setIfInBounds_toArray, List.set_cons_succ, List.set_cons_zero, h23, h24, h25, h26, h27, hG7]
          clear h23 h24 h25 h26 h27 hG7 h7
          clear KC HI3
          replace O := Lib.hid (O.out.keep hC)
          replace CM := Lib.hid (CM.out.below hC)
          replace XE := XE.below hC zx
          replace B := Lib.hid (btE B.out hC)
          have XO : CardO w6 G7 zeroC := hGO7
          have zo6 : go < w6.heap.size := (World.ownsRow.lt O.out.1 go rfl).2
          have hgo : ¬ G7 = go := by have := (World.ownsRow.lt O.out.1 go rfl).2; have := zo; omega
          have hm7 : ¬ mb = G7 := by omega
          have hx7 : ¬ wo.heap.size = G7 := by omega
          have hw7 : w.heap.size ≤ G7 := by omega
          obtain ⟨d0, d1, d2, d3, d4, d5, d6, d7⟩ := XO.at.zero
          have f0 := XO.fz 0
          have f1 := XO.fz 1
          have f2 := XO.fz 2
          have f3 := XO.fz 3
          have f4 := XO.fz 4
          have f5 := XO.fz 5
          have f6 := XO.fz 6
          have f7 := XO.fz 7
          have XP := XO.put ⟨x, mo, u1, gi, 0, t, p, dat⟩
          have OP := OwnC.kept (w' := putOC w6 G7 ⟨x, mo, u1, gi, 0, t, p, dat⟩) O.out (row := some G7) (grown_putOC w6 G7 _) (fun e => hgo (Option.some.inj e).symm)
          have CP := CM.out.kept (w' := putOC w6 G7 ⟨x, mo, u1, gi, 0, t, p, dat⟩) (row := some G7) (grown_putOC w6 G7 _) (fun e => hm7 (Option.some.inj e))
          have BP := below_putOC (g := G7) B.out hw7 ⟨x, mo, u1, gi, 0, t, p, dat⟩
          simp only [putOC] at XP OP CP BP
          go_upto_region 9 with fail
          obtain ⟨w7, hw7e⟩ : ∃ y, y = ((((((((w6.setCell ⟨G7, 0, none⟩ (.int .i64 x)).setCell ⟨G7, 1, none⟩ (.int .i64 mo)).setCell ⟨G7, 2, none⟩ (.int .i64 u1)).setCell ⟨G7, 3, none⟩ (.int .i64 gi)).setCell ⟨G7, 4, none⟩ (.int .i64 0)).setCell ⟨G7, 5, none⟩ (.int .i64 t)).setCell ⟨G7, 6, none⟩ (.string p)).setCell ⟨G7, 7, none⟩ (.string dat)) := ⟨_, rfl⟩
          rw [← hw7e] at XP OP CP BP ⊢
          clear hw7e d0 d1 d2 d3 d4 d5 d6 d7 f0 f1 f2 f3 f4 f5 f6 f7 O CM B XE XO hGO7
          have O := Lib.hid OP
          have B := Lib.hid BP
          obtain ⟨Dm, hown, hD⟩ := CP
          have OM := Lib.hid hown
          have HDm := Lib.hid hD
          have HLk : Hid (Dm.atKey (keyIn x) (.lit (.int .i64 0)) = .lit (.int .i64 ((countTo L x i : Nat) : Int))) := Lib.hid (hD.2 x)
          obtain ⟨cx, hcx⟩ : ∃ c, countTo L x i = c := ⟨_, rfl⟩
          rw [hcx] at HLk HCp2 hcb
          clear OP BP hown hD hcx
          have XC := Lib.hid XP
          obtain ⟨d0, d1, d2, d3, d4, d5, d6, d7⟩ := XP.at.zero
          clear XP
          go_upto_region 10 with (first | (at_lookup; refine wpList_lookup_own_int _ rfl _ _ 54 rfl 3 3 .i64 lawIn Try.underlying54 Try.underlying3 (zeroIn _) mb i Dm rfl OM.out _ _ rfl (key_in (by omega) (by omega)) ?_; intro c' hat _; obtain rfl : c' = (cx : Int) := (by have := hat.symm.trans HLk.out; simpa using this); clear hat) | (at_mapUpdate; refine wpList_mapUpdate_own _ rfl _ _ _ 54 rfl 3 3 lawIn Try.underlying54 _ mb i Dm rfl OM.out (by simp only [maxLen]; omega) _ _ _ rfl rfl (key_in (by omega) (by omega)) _ [] (plainElem_int Try.underlying3 (wf_in (by omega) (by omega))) ?_; intro w8 hown2 hgrow2))
          have CM8 : Hid (CntAt w8 mb (i + 1) (fun x => ((countTo L x (i + 1) : Nat) : Int))) := Lib.hid (by rw [← HCp2.out]; exact ⟨_, hown2, HDm.out.put x _⟩)
          have hne := card_map_ne O.out ⟨Dm, OM.out, HDm.out⟩
          have O8 : Hid (OwnC w8 w.heap.size (.slice (some ⟨go, 0, none⟩) D.length co) D) := Lib.hid (O.out.kept hgrow2 (fun e => hne e.symm))
          have X8 := XC.out.grown hgrow2 (fun e => hm7 (Option.some.inj e).symm)
          have B8 : Hid (Below w.heap.size w w8) := Lib.hid (B.out.grown hgrow2 B.out.size (fun b hb => by cases hb; omega))
          have OW := Lib.hid O8.out.1
          have hsz8 := B8.out.size
          clear hown2 hgrow2 hne O OM HDm HLk B XC d0 d1 d2 d3 d4 d5 d6 d7 HCp2
          obtain ⟨d0, d1, d2, d3, d4, d5, d6, d7⟩ := X8.at.zero
          go_wp2_with (at_builtin; refine wpList_append_own _ rfl _ _ 24 rfl w.heap.size 47 i0 (.agg #[.int .i64 0, .int .i64 0, .int .i64 0, .int .i64 0, .int .i64 0, .int .i64 0, .string ⟨#[]⟩, .string ⟨#[]⟩]) 8 80 Try.underlying24 hi0 hz0 hz1 hz2 rfl (by decide) _ D.length (valsC D) rfl ?c0q ⟨w8.heap.size, 0, none⟩ 1 1 (valsC [⟨x, mo, u1, gi, 0, t, p, dat⟩]) rfl (valsC_len _) ?c1q ?c2q ?c3q ?c4q ?c5q ?_)
          case c0q => exact World.ownsRow.alloc OW.out _
          case c1q => intro jj uu hu; rw [valsC_one] at hu; exact hu
          case c2q => exact valsC_onecell _
          any_goals (first | (simp only [maxLen]; omega) | omega | (simp; omega))
          intro v' w9 hown hgrow hnil
          have NB : Below w8.heap.size w8 (w8.alloc (.cells (Card.cells ⟨x, mo, u1, gi, 0, t, p, dat⟩).toArray 47)) := (Below.refl _ _).alloc (Nat.le_refl _) _
          have hne9 := card_map_ne O8.out CM8.out
          have O9 : Hid (OwnC w9 w.heap.size v' (cardsP L (i + 1))) := Lib.hid (by rw [HP2.out]; exact own_appC hown rfl rfl hnil)
          have CM9 := Lib.hid ((CM8.out.below NB).kept hgrow hne9)
          have B9 : Hid (Below w.heap.size w w9) := Lib.hid ((btE B8.out NB).grown hgrow (by have := NB.size; omega) (fun b hb => (World.ownsRow.lt OW.out b hb).1))
          clear hown hgrow hnil NB hne9 O8 CM8 B8 OW X8 d0 d1 d2 d3 d4 d5 d6 d7
          go_wp2_with fail
          go_roundw
          case rel => exact ⟨i + 1, by go_num, by omega, O9.out, CM9.out, B9.out⟩
          case measure => simp [intOf]; omega
      · obtain rfl : i = n := by omega
        have hlt2 : ¬ (i : Int) < (i : Int) := by omega
        have HPl2 := HPl.out i
        rw [← HQz.out] at O HPl2
        obtain ⟨go, co, rfl, _, zo, hbo, _⟩ := O.out.open
        rw [HPl2] at *
        clear HPl HP HZ HCp HI HPl2
        have hmm2 := CM.out.lt
        go_wp2_with fail
        go_loopw [8, 9, 40] (fun _ _ u w2 => ∃ j : Nat, u = .int .i64 j ∧ j ≤ i ∧ OwnC w2 w.heap.size (.slice (some ⟨go, 0, none⟩) i co) (cardsQ L i j) ∧ CntAt w2 mb i (fun x => ((countTo L x i : Nat) : Int)) ∧ Below w.heap.size w w2) (fun _ _ u _ => i - (intOf u).toNat)
        case atStart => exact ⟨0, rfl, Nat.zero_le _, O.out, CM.out, B.out⟩
        case round =>
          obtain ⟨j, rfl, hj, ho, hc, hb⟩ := hrel
          obtain ⟨wp, hwp⟩ : ∃ wp, wp = wr := ⟨_, rfl⟩
          subst hwp
          clear O CM B hmm2
          have O := Lib.hid ho
          have CM := Lib.hid hc
          have B := Lib.hid hb
          have hszp := B.out.size
          clear ho hc hb
          by_cases hltj : j < i
          · have hltj2 : (j : Int) < (i : Int) := by omega
            obtain ⟨e, he, hmd, hxd, hz⟩ := HE2.out j hltj
            have R := Lib.hid (H1.out.below B.out hg)
            have zg : g < wp.heap.size := by omega
            have HA := HQa.out j e he hltj
            have HS := HQs.out j e he
            have HFd := HF2.out j e he
            have HLe := HQl.out j hj
            have HTj := HTl.out j
            have hcb := HCl.out (inov L j e) i
            obtain ⟨c0, c1, c2, c3, c4, c5, c6, c7, c8, c9⟩ := R.out.ten he
            rw [HFd] at HS
            clear he hmd hz R HFd
            rw [HA] at O HLe
            generalize inov L j e = x at O HS hcb hxd HLe
            obtain ⟨A, hA⟩ : ∃ A, cardsTo L j = A := ⟨_, rfl⟩
            obtain ⟨T, hT⟩ : ∃ T, (cardsP L i).drop (j + 1) = T := ⟨_, rfl⟩
            rw [hA] at O HS HTj HLe
            rw [hT] at O HS HLe
            clear hA hT HA
            obtain ⟨k, p, l, m, u1, gi, t, us, gr, b⟩ := e
            have hgw := (World.ownsRow.lt O.out.1 go rfl).2
            have NB : Below wp.heap.size wp (wp.alloc (.cells (Ent.cells ⟨k, p, l, m, u1, gi, t, us, gr, b⟩).toArray 43)) := (Below.refl _ _).alloc (Nat.le_refl _) _
            have XE := Lib.hid (EntO.new wp ⟨k, p, l, m, u1, gi, t, us, gr, b⟩)
            replace O := Lib.hid (O.out.keep NB)
            replace CM := Lib.hid (CM.out.below NB)
            replace B := Lib.hid (btE B.out NB)
            simp only [Ent.cells] at XE O CM B HS
            clear NB
            go_upto_region 15 with fail
            obtain ⟨w3, hw3⟩ : ∃ y, y = wp.alloc (.cells #[.int .i64 k, .string p, .string l, .int .i64 m, .int .i64 u1, .int .i64 gi, .int .i64 t, .string us, .string gr, .string b] 43) := ⟨_, rfl⟩
            simp only [List.toArray] at XE O CM B
            rw [← hw3] at XE O CM B ⊢
            clear hw3 c0 c1 c2 c3 c4 c5 c6 c7 c8 c9
            have hin : (valsC (A ++ cardOfv x ⟨k, p, l, m, u1, gi, t, us, gr, b⟩ :: T))[A.length * 8 + 0]? = some (.int .i64 x) := by
              rw [valsC_get _ _ _ (by omega)]
              simp [cardOfv, Card.cells]
            have hc0 := O.out.row.1 _ _ hin
            have hin4 : ∃ y, (valsC (A ++ cardOfv x ⟨k, p, l, m, u1, gi, t, us, gr, b⟩ :: T))[A.length * 8 + 4]? = some y := by
              rw [valsC_get _ _ _ (by omega)]
              simp [Card.cells]
            obtain ⟨y4, hin4⟩ := hin4
            have hc4 := O.out.row.1 _ _ hin4
            have hfz := O.out.1
            rw [HLe] at hfz
            have hf4 : w3.frozen? ⟨go, A.length * 8 + 4, none⟩ = false := World.ownsRow.frozenAt hfz (A.length * 8 + 4)
            clear hin hin4 hfz
            rw [HTj] at hc0 hc4 hf4
            simp only [Nat.add_zero] at hc0
            obtain ⟨Dm, hown, hD⟩ := CM.out
            have OM := Lib.hid hown
            have HLk : Hid (Dm.atKey (keyIn x) (.lit (.int .i64 0)) = .lit (.int .i64 ((countTo L x i : Nat) : Int))) := Lib.hid (hD.2 x)
            have hne := card_map_ne O.out CM.out
            obtain ⟨cx, hcx⟩ : ∃ c, countTo L x i = c := ⟨_, rfl⟩
            rw [hcx] at HLk HS hcb
            clear hown hD hcx
            have O4 := Lib.hid (rowC_count (n := j) HLe.symm O.out HTj.symm (cx : Int))
            have hgo : ¬ wp.heap.size = go := by omega
            have CM4 := Lib.hid (CM.out.kept (w' := w3.setCell ⟨go, j * 8 + 4, none⟩ (.int .i64 (cx : Int))) (row := some go) (grown_setC (grownOC w3 _) _ _) hne)
            have X4 := Lib.hid (XE.out.other (b := go) (i := j * 8 + 4) (v := .int .i64 (cx : Int)) hgo)
            have B4 := Lib.hid (B.out.setCell (p := ⟨go, j * 8 + 4, none⟩) hbo (.int .i64 (cx : Int)))
            clear O CM XE B
            go_upto_region 16 with ((at_lookup; refine wpList_lookup_own_int _ rfl _ _ 54 rfl 3 3 .i64 lawIn Try.underlying54 Try.underlying3 (zeroIn _) mb i Dm rfl OM.out _ _ rfl (key_in (by omega) (by omega)) ?_; intro c' hat _; obtain rfl : c' = (cx : Int) := (by have := hat.symm.trans HLk.out; simpa using this); clear hat))
            obtain ⟨w4, hw4⟩ : ∃ y, y = w3.setCell ⟨go, j * 8 + 4, none⟩ (.int .i64 (cx : Int)) := ⟨_, rfl⟩
            rw [← hw4] at O4 CM4 X4 B4 ⊢
            clear hw4 hc0 hc4 hf4 hne OM HLk
            obtain ⟨d0, d1, d2, d3, d4, d5, d6, d7, d8, d9⟩ := X4.out.at.zero
            by_cases hk : k = 1
            · subst hk
              have HS2 : Hid (cardsQ L i (j + 1) = A ++ withCount (withCount (cardOfv x ⟨1, p, l, m, u1, gi, t, us, gr, b⟩) (cx : Int)) 2 :: T) := Lib.hid (by rw [HS]; rfl)
              have hin4 : ∃ y, (valsC (A ++ withCount (cardOfv x ⟨1, p, l, m, u1, gi, t, us, gr, b⟩) (cx : Int) :: T))[A.length * 8 + 4]? = some y := by
                rw [valsC_get _ _ _ (by omega)]
                simp [Card.cells]
              obtain ⟨y5, hin4⟩ := hin4
              have hc4 := O4.out.row.1 _ _ hin4
              have HLe2 : i = (A ++ withCount (cardOfv x ⟨1, p, l, m, u1, gi, t, us, gr, b⟩) (cx : Int) :: T).length := by rw [← HLe]; simp
              have hfz := O4.out.1
              rw [← HLe2] at hfz
              have hf4 : w4.frozen? ⟨go, A.length * 8 + 4, none⟩ = false := World.ownsRow.frozenAt hfz (A.length * 8 + 4)
              rw [HTj] at hc4 hf4
              clear hin4 hfz
              have hne := card_map_ne O4.out CM4.out
              have O5 := Lib.hid (rowC_count (n := j) HLe2 O4.out HTj.symm 2)
              have CM5 := Lib.hid (CM4.out.kept (w' := w4.setCell ⟨go, j * 8 + 4, none⟩ (.int .i64 2)) (row := some go) (grown_setC (grownOC w4 _) _ _) hne)
              have B5 := Lib.hid (B4.out.setCell (p := ⟨go, j * 8 + 4, none⟩) hbo (.int .i64 2))
              clear O4 CM4 X4 B4 HS HLe2
              go_wp2_with fail
              go_roundw
              case rel => exact ⟨j + 1, by go_num, by omega, by rw [HS2.out]; exact O5.out, CM5.out, B5.out⟩
              case measure => simp [intOf]; omega
            · have hk2 : (k == 1) = false := by simpa using hk
              have HS2 : Hid (cardsQ L i (j + 1) = A ++ withCount (cardOfv x ⟨k, p, l, m, u1, gi, t, us, gr, b⟩) (cx : Int) :: T) := Lib.hid (by rw [HS, if_neg hk])
              clear HS hk X4
              go_wp2_with fail
              go_roundw
              case rel => exact ⟨j + 1, by go_num, by omega, by rw [HS2.out]; exact O4.out, CM4.out, B4.out⟩
              case measure => simp [intOf]; omega
          · obtain rfl : j = i := by omega
            have hltj2 : ¬ (j : Int) < (j : Int) := by omega
            rw [HQe.out, ← HF.out] at O
            go_wp2_with fail
            go_ret
            exact ⟨_, rfl, O.out, B.out⟩
end Go.Proofs.Ytpimeekcnndhiaa

/- The law laws.FnExactCardsOf returns true. -/
namespace Go.Proofs.Ytpimeekcnndhiaa
open Go.ChangeShapes Go.WideShapes Go.ChangeAt Go.RowKit Go.Deep

set_option maxHeartbeats 3200000 in
set_option maxRecDepth 8000 in
theorem cardsOf_law (a0 : Option Addr) (len0 cap0 : Nat) (es0 : List Ent) (w : World) (hR0 : IsRowE w a0 len0 cap0 es0) :
    Calls Try.prog 3 #[.slice a0 len0 cap0] w fun e w' => e = .returned (.bool true) ∧ Below w.heap.size w w' := by
  have HS0 := Lib.hid (fun left w h h0 h1 => szEntryS_any a0 len0 cap0 es0 left w h h0 h1)
  have HR0 := Lib.hid hR0
  have HT0 := Lib.hid (fun w h hl => toEntryS_own a0 len0 cap0 es0 w h hl)
  have HL0 := Lib.hid hR0.take_len
  have HZ0 := Lib.hid (fun left r hr h0 => sz_facts (left := left) (r := r) hR0 hr h0)
  clear hR0
  have B : Hid (Below w.heap.size w w) := Lib.hid (Below.refl _ _)
  go_enter Try.func3, Try.ntmps3
  go_wp2_with fail
  refine (HS0.out _ _ (HR0.out.below B.out) (by omega) (by omega)).mono ?_
  rintro e v0 ⟨⟨r0, rfl, hr⟩, hb⟩
  replace B := Lib.hid (btE B.out hb)
  have hz0 := HZ0.out _ r0 hr
  clear hb hr HS0 HZ0
  by_cases hr0 : r0 < 0
  · go_wp2_with fail
    go_ret
    exact ⟨rfl, B.out⟩
  replace hz0 := hz0 (by omega)
  have hlen0 : len0 ≤ 1048576 := by omega
  have htot0 : totL (es0.take len0) ≤ 1048576 := by omega
  clear hz0
  have HS := Lib.hid (fun g w hg h1 => cardsOf_spec (es0.take len0) len0 g len0 w HL0.out.symm (by omega) (Nat.le_refl _) hg (small_of_tot htot0 (by omega)) h1)
  have HI := Lib.hid (fun g w hg h1 => cardsOf_impl (es0.take len0) len0 g len0 w HL0.out.symm (by omega) (Nat.le_refl _) hg (small_of_tot htot0 (by omega)) h1)
  have HQ0 := Lib.hid (fun g g2 w hg hg2 h1 h2 => eqEntryS_any (es0.take len0) len0 g g2 len0 len0 w HL0.out.symm (by omega) hg hg2 h1 h2)
  have hD : (cardsv (es0.take len0)).length ≤ 2097152 := (by have := cardsv_le (es0.take len0); have := HL0.out; omega)
  generalize cardsv (es0.take len0) = D at HS HI hD
  have hEL0 := HL0.out
  generalize es0.take len0 = L0 at HT0 HS HI HQ0 hEL0
  clear htot0 HL0
  have HE := Lib.hid (fun g g2 ca cb w hg hg2 h1 h2 => eqCardS_any D D.length g g2 ca cb w rfl (by omega) hg hg2 h1 h2)
  have HM := Lib.hid (fun g ca base w h => markCardS_any D.length g ca 1 base (valsC D) w (by omega) (by omega) h)
  have HH := Lib.hid (fun g ca w hg h => heldCardS_any D.length g ca 1 w (by omega) (by omega) hg h)
  have qm : ¬ ((1 + D.length * 8 : Nat) : Int) < 0 := by omega
  have HX0 := Lib.hid (fun g ca base xs w h => markEntryS_any len0 g ca (1) base xs w (by omega) (by omega) h)
  have qk : ¬ ((1 + len0 * 10 : Nat) : Int) < 0 := by omega
  have qk2 : decide (((1 + len0 * 10 : Nat) : Int) < 0) = false := decide_eq_false qk
  go_wp2_with fail
  refine (HT0.out _ (HR0.out.below B.out) hlen0).mono ?_
  rintro e w2 ⟨rfl, ho, hb⟩
  have Ra0 := Lib.hid ho.row.1
  have za0 := ho.row.2.1
  clear ho
  replace B := Lib.hid (btE B.out hb)
  clear hb
  generalize hgena0 : v0.heap.size = ga0 at *
  clear hgena0
  go_wp2_with fail
  refine (HS.out _ _ za0 Ra0.out).mono ?_
  rintro e w3 ⟨v, rfl, ho, hb⟩
  obtain ⟨gw, cw, rfl, hr, zw, hbase, hown⟩ := ho.open
  have Rw := Lib.hid hr
  clear ho hr hown hbase
  clear Ra0 za0
  replace B := Lib.hid (btE B.out hb)
  clear hb
  go_wp2_with fail
  refine (HT0.out _ (HR0.out.below B.out) hlen0).mono ?_
  rintro e w4 ⟨rfl, ho, hb⟩
  have Ox0 := Lib.hid ho
  have nwx0 : gw < w3.heap.size := zw
  have wgx0 : w.heap.size ≤ w3.heap.size := B.out.size
  have Rx0 := Lib.hid ho.row.1
  have zx0 := ho.row.2.1
  clear ho
  replace B := Lib.hid (btE B.out hb)
  replace Rw := Lib.hid (Rw.out.below hb zw)
  replace zw := Nat.lt_of_lt_of_le zw hb.size
  clear hb
  generalize hgenx0 : w3.heap.size = gx0 at *
  clear hgenx0
  go_wp2_with fail
  refine (HI.out _ _ zx0 Rx0.out).mono ?_
  rintro e w5 ⟨v2, rfl, ho, hb⟩
  obtain ⟨gg, cg, rfl, hr, zg, hbase, hown⟩ := ho.open
  have Rg := Lib.hid hr
  have nx0g : gx0 < gg := Nat.lt_of_lt_of_le zx0 hbase
  have Og := Lib.hid hown
  clear ho hr hown hbase
  replace B := Lib.hid (btE B.out hb)
  replace Ox0 := Lib.hid (Ox0.out.keep hb)
  replace Rw := Lib.hid (Rw.out.below hb zw)
  replace zw := Nat.lt_of_lt_of_le zw hb.size
  replace Rx0 := Lib.hid (Rx0.out.below hb zx0)
  replace zx0 := Nat.lt_of_lt_of_le zx0 hb.size
  clear hb
  go_wp2_with fail
  refine (HE.out gg gw cg cw _ zg zw Rg.out Rw.out).mono ?_
  rintro e w6 ⟨rfl, hb⟩
  replace B := Lib.hid (btE B.out hb)
  replace Ox0 := Lib.hid (Ox0.out.keep hb)
  replace Og := Lib.hid (own_belowC Og.out hb)
  replace Rw := Lib.hid (Rw.out.below hb zw)
  replace zw := Nat.lt_of_lt_of_le zw hb.size
  replace Rx0 := Lib.hid (Rx0.out.below hb zx0)
  replace zx0 := Nat.lt_of_lt_of_le zx0 hb.size
  replace Rg := Lib.hid (Rg.out.below hb zg)
  replace zg := Nat.lt_of_lt_of_le zg hb.size
  clear hb
  go_wp2_with fail
  refine (HT0.out _ (HR0.out.below B.out) hlen0).mono ?_
  rintro e w7 ⟨rfl, ho, hb⟩
  have Rb0 := Lib.hid ho.row.1
  have zb0 := ho.row.2.1
  clear ho
  replace B := Lib.hid (btE B.out hb)
  replace Ox0 := Lib.hid (Ox0.out.keep hb)
  replace Og := Lib.hid (own_belowC Og.out hb)
  replace Rw := Lib.hid (Rw.out.below hb zw)
  replace zw := Nat.lt_of_lt_of_le zw hb.size
  replace Rx0 := Lib.hid (Rx0.out.below hb zx0)
  replace zx0 := Nat.lt_of_lt_of_le zx0 hb.size
  replace Rg := Lib.hid (Rg.out.below hb zg)
  replace zg := Nat.lt_of_lt_of_le zg hb.size
  clear hb
  generalize hgenb0 : w6.heap.size = gb0 at *
  clear hgenb0
  go_wp2_with fail
  refine (HQ0.out gx0 _ _ zx0 zb0 Rx0.out Rb0.out).mono ?_
  rintro e w8 ⟨rfl, hb⟩
  replace B := Lib.hid (btE B.out hb)
  replace Ox0 := Lib.hid (Ox0.out.keep hb)
  replace Og := Lib.hid (own_belowC Og.out hb)
  replace Rw := Lib.hid (Rw.out.below hb zw)
  replace zw := Nat.lt_of_lt_of_le zw hb.size
  replace Rx0 := Lib.hid (Rx0.out.below hb zx0)
  replace zx0 := Nat.lt_of_lt_of_le zx0 hb.size
  replace Rg := Lib.hid (Rg.out.below hb zg)
  replace zg := Nat.lt_of_lt_of_le zg hb.size
  replace Rb0 := Lib.hid (Rb0.out.below hb zb0)
  replace zb0 := Nat.lt_of_lt_of_le zb0 hb.size
  clear hb
  clear Rb0 zb0
  have hox := Ox0.out.1
  rw [hEL0] at hox
  have hxb := (World.ownsRow.lt hox gx0 rfl).1
  go_wp2_with fail
  refine (HX0.out gx0 len0 _ _ _ hox).mono ?_
  rintro e w9 ⟨rfl, _, _, hg⟩
  clear Ox0 Rx0 zx0 hox
  replace B : Hid (Below w.heap.size w w9) := Lib.hid (B.out.grown hg B.out.size (fun k hk => by cases hk; omega))
  replace Rw := Lib.hid (Rw.out.grown hg (someNe (by omega)))
  replace zw := Nat.lt_of_lt_of_le zw hg.size
  replace Rg := Lib.hid (Rg.out.grown hg (someNe (by omega)))
  replace zg := Nat.lt_of_lt_of_le zg hg.size
  replace Og := Lib.hid (World.ownsRow.kept Og.out hg (.inr (by simpa [Value.ownBlock] using (show gg ≠ gx0 by omega))))
  clear hg hxb
  go_wp2_with fail
  refine (HE.out gg gw cg cw _ zg zw Rg.out Rw.out).mono ?_
  rintro e w10 ⟨rfl, hb⟩
  replace B := Lib.hid (btE B.out hb)
  replace Og := Lib.hid (own_belowC Og.out hb)
  replace Rw := Lib.hid (Rw.out.below hb zw)
  replace zw := Nat.lt_of_lt_of_le zw hb.size
  replace Rg := Lib.hid (Rg.out.below hb zg)
  replace zg := Nat.lt_of_lt_of_le zg hb.size
  clear hb
  go_wp2_with fail
  refine (HM.out gg cg _ _ Og.out).mono ?_
  rintro e w11 ⟨rfl, _, hrm, hg⟩
  replace B : Hid (Below w.heap.size w w11) := Lib.hid (B.out.grown hg B.out.size (fun k hk => by cases hk; omega))
  replace Rw := Lib.hid (Rw.out.grown hg (someNe (by omega)))
  replace zw := Nat.lt_of_lt_of_le zw hg.size
  clear Rg Og
  have Rg := Lib.hid hrm
  replace zg := Nat.lt_of_lt_of_le zg hg.size
  clear hg hrm
  go_wp2_with fail
  refine (HH.out gg cg _ zg Rg.out).mono ?_
  rintro e w12 ⟨rfl, hb⟩
  replace B := Lib.hid (btE B.out hb)
  replace Rw := Lib.hid (Rw.out.below hb zw)
  replace zw := Nat.lt_of_lt_of_le zw hb.size
  replace Rg := Lib.hid (Rg.out.below hb zg)
  replace zg := Nat.lt_of_lt_of_le zg hb.size
  clear hb
  go_wp2_with fail
  refine (HT0.out _ (HR0.out.below B.out) hlen0).mono ?_
  rintro e w13 ⟨rfl, ho, hb⟩
  have Rc0 := Lib.hid ho.row.1
  have zc0 := ho.row.2.1
  clear ho
  replace B := Lib.hid (btE B.out hb)
  replace Rw := Lib.hid (Rw.out.below hb zw)
  replace zw := Nat.lt_of_lt_of_le zw hb.size
  replace Rg := Lib.hid (Rg.out.below hb zg)
  replace zg := Nat.lt_of_lt_of_le zg hb.size
  clear hb
  generalize hgenc0 : w12.heap.size = gc0 at *
  clear hgenc0
  go_wp2_with fail
  refine (HI.out _ _ zc0 Rc0.out).mono ?_
  rintro e w14 ⟨v3, rfl, ho, hb⟩
  clear Rc0 zc0
  obtain ⟨gh, ch, rfl, hr, zh, hbase, hown⟩ := ho.open
  have Rh := Lib.hid hr
  clear ho hr hown hbase
  replace B := Lib.hid (btE B.out hb)
  replace Rw := Lib.hid (Rw.out.below hb zw)
  replace zw := Nat.lt_of_lt_of_le zw hb.size
  replace Rg := Lib.hid (Rg.out.below hb zg)
  replace zg := Nat.lt_of_lt_of_le zg hb.size
  clear hb
  go_wp2_with fail
  refine (HE.out gh gw ch cw _ zh zw Rh.out Rw.out).mono ?_
  rintro e w15 ⟨rfl, hb⟩
  replace B := Lib.hid (btE B.out hb)
  replace Rw := Lib.hid (Rw.out.below hb zw)
  replace zw := Nat.lt_of_lt_of_le zw hb.size
  replace Rg := Lib.hid (Rg.out.below hb zg)
  replace zg := Nat.lt_of_lt_of_le zg hb.size
  replace Rh := Lib.hid (Rh.out.below hb zh)
  replace zh := Nat.lt_of_lt_of_le zh hb.size
  clear hb
  go_wp2_with fail
  refine (HH.out gg cg _ zg Rg.out).mono ?_
  rintro e w16 ⟨rfl, hb⟩
  replace B := Lib.hid (btE B.out hb)
  replace Rw := Lib.hid (Rw.out.below hb zw)
  replace zw := Nat.lt_of_lt_of_le zw hb.size
  replace Rg := Lib.hid (Rg.out.below hb zg)
  replace zg := Nat.lt_of_lt_of_le zg hb.size
  replace Rh := Lib.hid (Rh.out.below hb zh)
  replace zh := Nat.lt_of_lt_of_le zh hb.size
  clear hb
  go_wp2_with fail
  go_ret
  exact ⟨rfl, B.out⟩
end Go.Proofs.Ytpimeekcnndhiaa
