/- Texts joined: CardsI, WrK, WrOdc, PutOdcJ, PutOdcELaw. -/
import Derived.Test.YtcnmbolmgifgfabGreatDoorOwn
import Derived.Test.YtcnmbolmgifgfabGreatDoorRegSl
import Derived.Deep.DeepCutAuto
import Derived.OwnWalk
import Derived.Deep.WholeRow
import Derived.Test.YtcnmbolmgifgfabGreatDoorLawE
import Derived.Test.YtcnmbolmgifgfabGreatDoorJO1
/- Contract of impl.CardsOf. -/
namespace Go.Proofs.YtcnmbolmgifgfabGreatDoor
open Go.ChangeShapes Go.WideShapes Go.ChangeAt Go.RowKit Go.Deep Go.Maps

theorem card_map_ne {w : World} {base b n : Nat} {v : Value} {L : List Card} {M : Int → Int} (o : OwnC w base v L) (c : CntAt w b n M) : some b ≠ v.ownBlock := by
  intro e
  obtain ⟨D, ⟨es, clock, hb, F, hs, rfl⟩, _⟩ := c
  obtain ⟨⟨_, h2⟩, g, cap, rfl⟩ := o
  rcases h2 with ⟨h0, _⟩ | ⟨g', cap', cur, hv, hg, hh, _⟩
  · cases h0
  · cases hv
    simp [Value.ownBlock] at e
    subst e
    rw [hb] at hh
    cases hh
/-- The cards without their counts. -/
def cardsP (L : List Ent) : Nat → List Card
  | 0 => []
  | n + 1 => cardsP L n ++ [cardOfv (inov L n (L.getD n entD)) (L.getD n entD)]
theorem cardsP_len (L : List Ent) (n : Nat) : (cardsP L n).length = n := by
  induction n with
  | zero => rfl
  | succ n ih => simp [cardsP, ih]
theorem cardsP_step {L : List Ent} {i : Nat} {e : Ent} (he : L[i]? = some e) : cardsP L (i + 1) = cardsP L i ++ [cardOfv (inov L i e) e] := by rw [cardsP, getD_of he]
theorem cardsP_get (L : List Ent) (n i : Nat) {e : Ent} (he : L[i]? = some e) (h : i < n) : (cardsP L n)[i]? = some (cardOfv (inov L i e) e) := by
  induction n with
  | zero => omega
  | succ n ih =>
    rw [cardsP]
    by_cases q : i = n
    · subst q
      rw [List.getElem?_append_right (by rw [cardsP_len]; omega), cardsP_len, getD_of he]
      simp
    · rw [List.getElem?_append_left (by rw [cardsP_len]; omega)]
      exact ih (by omega)
/-- The cards of which the first i have their counts. -/
def cardsQ (L : List Ent) (n i : Nat) : List Card := cardsTo L i ++ (cardsP L n).drop i
theorem cardsQ_len {L : List Ent} {n i : Nat} (h : i ≤ n) : (cardsQ L n i).length = n := by
  simp [cardsQ, cardsTo_len, cardsP_len]
  omega
theorem cardsQ_zero (L : List Ent) (n : Nat) : cardsQ L n 0 = cardsP L n := by simp [cardsQ, cardsTo]
theorem cardsQ_all (L : List Ent) (n : Nat) : cardsQ L n n = cardsTo L n := by
  rw [cardsQ, List.drop_eq_nil_of_le (by rw [cardsP_len]; omega), List.append_nil]
theorem cardsQ_at {L : List Ent} {n i : Nat} {e : Ent} (he : L[i]? = some e) (h : i < n) : cardsQ L n i = cardsTo L i ++ cardOfv (inov L i e) e :: (cardsP L n).drop (i + 1) := by
  have hlt : i < (cardsP L n).length := by rw [cardsP_len]; exact h
  have hg := cardsP_get L n i he h
  rw [List.getElem?_eq_getElem hlt] at hg
  rw [cardsQ, List.drop_eq_getElem_cons hlt, Option.some.inj hg]
def withCount (c : Card) (n : Int) : Card := ⟨c.Ino, c.Mode, c.Uid, c.Gid, n, c.Time, c.Path, c.Data⟩
theorem cardsQ_succ {L : List Ent} {n i : Nat} {e : Ent} (he : L[i]? = some e) : cardsQ L n (i + 1) = cardsTo L i ++ cardv L i e :: (cardsP L n).drop (i + 1) := by
  rw [cardsQ, cardsTo, getD_of he]
  simp
theorem valsC_setCount (A B : List Card) (c : Card) (n : Int) : (valsC (A ++ c :: B)).set (A.length * 8 + 4) (.int .i64 n) = valsC (A ++ withCount c n :: B) := by
  rw [valsC_app, valsC_app, List.set_append_right _ _ (by rw [valsC_len]; omega), valsC_len]
  congr 1
  rw [show A.length * 8 + 4 - A.length * 8 = 4 from by omega]
  rfl
theorem rowC_count {w : World} {base g cap : Nat} {A B : List Card} {c : Card} {n N : Nat} (hN : N = (A ++ c :: B).length) (h : OwnC w base (.slice (some ⟨g, 0, none⟩) N cap) (A ++ c :: B)) (hn : n = A.length) (x : Int) : OwnC (w.setCell ⟨g, n * 8 + 4, none⟩ (.int .i64 x)) base (.slice (some ⟨g, 0, none⟩) N cap) (A ++ withCount c x :: B) := by
  subst hN hn
  obtain ⟨ho, g', cap', hv⟩ := h
  cases hv
  have h1 := (World.ownsRow.stored ho (A.length * 8 + 4) (.int .i64 x)).1
  rw [valsC_setCount] at h1
  have hl : (A ++ withCount c x :: B).length = (A ++ c :: B).length := by simp
  exact ⟨by rw [hl]; exact h1, g, cap, by rw [hl]⟩
theorem count_put {L : List Ent} {i : Nat} {e : Ent} (he : L[i]? = some e) : putN (fun x => ((countTo L x i : Nat) : Int)) (inov L i e) ((countTo L (inov L i e) i : Nat) + 1) = fun x => ((countTo L x (i + 1) : Nat) : Int) := by
  funext y
  rw [countTo, inoAt_of he, putN]
  by_cases h : y = inov L i e
  · rw [if_pos h, if_pos h.symm, h]
    push_cast
    rfl
  · rw [if_neg h, if_neg (fun e => h e.symm)]
    simp
theorem card_full {L : List Ent} (hL : listOkv L = true) {i : Nat} {e : Ent} (he : L[i]? = some e) : cardv L i e = withCount (cardOfv (inov L i e) e) (if e.kind = 1 then 2 else (countTo L (inov L i e) L.length : Nat)) := by
  have hk := (entOk_facts (listOk_at hL he).1).2.2.2.2
  unfold cardv withCount cardOfv
  congr 1
  by_cases h1 : e.kind = 1
  · rw [if_pos h1]
    rcases kind_facts hk with h | h | h | h
    · omega
    · rw [datav, if_neg (by omega), ba_nil h.2.2]
    · omega
    · omega
  · rw [if_neg h1]
set_option maxHeartbeats 6400000 in
set_option maxRecDepth 8000 in
theorem cardsOf_impl (L : List Ent) (n g cap : Nat) (w : World) (hn : n = L.length) (hm : n ≤ 4194304) (hcap : n ≤ cap) (hg : g < w.heap.size) (hsm : SmallL L) (h1 : RowE w g L) :
    Calls Tryz.prog 61 #[.slice (some ⟨g, 0, none⟩) n cap] w fun e w' => ∃ v, e = .returned v ∧ OwnC w' w.heap.size v (cardsv L) ∧ Below w.heap.size w w' := by
  obtain ⟨i0, hi0, hz0, hz1, hz2⟩ := info_parts Tryz.infoC
  have H1 := Lib.hid h1
  have HK := Lib.hid (fun w (hg : g < w.heap.size) (h : RowE w g L) => listOk_impl L n g cap w hn hm hg hsm h)
  have HI := Lib.hid (fun (i : Nat) (e : Ent) w he (hg : g < w.heap.size) (h : RowE w g L) => ino_impl L i e n g cap w he hn hm hg h)
  have HV : Hid (cardsv L = if listOkv L then cardsTo L n else []) := Lib.hid (by rw [hn]; rfl)
  have HE : Hid (listOkv L = true → ∀ i, i < n → ∃ e, L[i]? = some e ∧ (0 ≤ e.mode ∧ e.mode ≤ 4095) ∧ (1 ≤ inov L i e ∧ inov L i e ≤ 31) ∧ esz e ≤ 4194304) := Lib.hid (fun hL i hi => by
    obtain ⟨e, he⟩ := getE' (L := L) (i := i) (by omega)
    obtain ⟨hM, _, _, _, hk⟩ := entOk_facts (listOk_at hL he).1
    have h1 := ino_bounds hL he
    have h2 := listOk_len hL
    exact ⟨e, he, hM, by omega, hsm.get he⟩)
  have HN : Hid (listOkv L = true → n ≤ 30) := Lib.hid (fun h => by rw [hn]; exact listOk_len h)
  have HP : Hid (∀ i e, L[i]? = some e → cardsP L (i + 1) = cardsP L i ++ [cardOfv (inov L i e) e]) := Lib.hid (fun i e he => cardsP_step he)
  have HPl := Lib.hid (fun i => cardsP_len L i)
  have HCl := Lib.hid (fun x i => countTo_le L x i)
  have HCp := Lib.hid (fun i e (he : L[i]? = some e) => count_put he)
  have HZ : Hid (cardsP L 0 = [] ∧ (fun x => ((countTo L x 0 : Nat) : Int)) = fun _ => 0) := Lib.hid ⟨rfl, rfl⟩
  have HFu : Hid (listOkv L = true → ∀ i e, L[i]? = some e → cardv L i e = withCount (cardOfv (inov L i e) e) (if e.kind = 1 then 2 else (countTo L (inov L i e) n : Nat))) := Lib.hid (fun hL i e he => by rw [hn]; exact card_full hL he)
  have HQa := Lib.hid (fun i e (he : L[i]? = some e) h => cardsQ_at (n := n) he h)
  have HQs := Lib.hid (fun i e (he : L[i]? = some e) => cardsQ_succ (n := n) he)
  have HQl := Lib.hid (fun i h => cardsQ_len (L := L) (n := n) (i := i) h)
  have HQz := Lib.hid (cardsQ_zero L n)
  have HQe := Lib.hid (cardsQ_all L n)
  have HTl := Lib.hid (fun i => cardsTo_len L i)
  generalize cardsv L = r at HV
  generalize listOkv L = ok at HK HV HE HN HFu
  clear h1 hsm hn
  have hmm := @run_makeMap Tryz.prog
  go_enter Tryz.func61, Tryz.ntmps61
  go_wp2_with fail
  refine (HK.out _ (by simp; omega) (H1.out.below ((Below.refl _ _).alloc (Nat.le_refl _) _) hg)).mono ?_
  rintro e w1 ⟨rfl, hb⟩
  have B0 : Below w.heap.size w (w.alloc (.cells #[] 48)) := (Below.refl _ _).alloc (Nat.le_refl _) _
  have B := Lib.hid (btE B0 hb)
  have O := Lib.hid ((OwnC.lit (w := w) (base := w.heap.size) (Nat.le_refl _)).keep hb)
  clear hb B0
  cases ok with
  | false =>
    have HF : Hid (r = []) := Lib.hid (by rw [HV.out]; rfl)
    go_wp2_with fail
    go_ret
    exact ⟨_, rfl, by rw [HF.out]; exact O.out, B.out⟩
  | true =>
    have HF : Hid (r = cardsTo L n) := Lib.hid (by rw [HV.out]; rfl)
    have hn30 := HN.out rfl
    have HE2 := Lib.hid (HE.out rfl)
    have HF2 := Lib.hid (HFu.out rfl)
    clear HV HE HN HK HFu
    have NB : Below w1.heap.size w1 (w1.alloc (.map #[] 0)) := (Below.refl _ _).alloc (Nat.le_refl _) _
    have C0 := Lib.hid (cnt_made w1)
    have O1 := Lib.hid (O.out.keep NB)
    have B1 := Lib.hid (btE B.out NB)
    have hmb := B.out.size
    clear NB O B
    obtain ⟨mb, hmbe⟩ : ∃ b, w1.heap.size = b := ⟨_, rfl⟩
    rw [hmbe] at C0 hmb
    go_wp2_with fail
    clear hmbe
    go_loopw [3, 5, 6, 7, 18] (fun v _ _ _ u wr => ∃ i : Nat, u = .int .i64 i ∧ i ≤ n ∧ OwnC wr w.heap.size v (cardsP L i) ∧ CntAt wr mb i (fun x => ((countTo L x i : Nat) : Int)) ∧ Below w.heap.size w wr) (fun _ _ _ _ u _ => n - (intOf u).toNat)
    case atStart => exact ⟨0, rfl, Nat.zero_le _, by rw [HZ.out.1]; exact O1.out, by rw [HZ.out.2]; exact C0.out, B1.out⟩
    case round =>
      obtain ⟨i, rfl, hi, ho, hc, hb⟩ := hrel
      obtain ⟨wo, hwo⟩ : ∃ wo, wo = wr := ⟨_, rfl⟩
      subst hwo
      have O := Lib.hid ho
      have CM := Lib.hid hc
      have B := Lib.hid hb
      have hsz := B.out.size
      have hmo := CM.out.lt
      clear ho hc hb O1 C0 B1
      by_cases hlt : i < n
      · have hlt2 : (i : Int) < (n : Int) := by omega
        obtain ⟨e, he, hmd, hxd, hz⟩ := HE2.out i hlt
        have HI2 := Lib.hid (fun w hg h => HI.out i e w he hg h)
        have HP2 := Lib.hid (HP.out i e he)
        have HPl2 := HPl.out i
        have HCp2 := Lib.hid (HCp.out i e he)
        have hcb := HCl.out (inov L i e) i
        have R := Lib.hid (H1.out.below B.out hg)
        have zg : g < wo.heap.size := by omega
        have HCd := Lib.hid (fun w => cardOf_impl e (inov L i e) w hz hmd.1 hmd.2)
        obtain ⟨c0, c1, c2, c3, c4, c5, c6, c7, c8, c9⟩ := R.out.ten he
        clear he HP HCp hz hmd
        obtain ⟨go, co, rfl, _, zo, hbo, _⟩ := O.out.open
        generalize inov L i e = x at HI2 HP2 HCp2 HCd hcb hxd
        obtain ⟨D, hD⟩ : ∃ D, cardsP L i = D := ⟨_, rfl⟩
        rw [hD] at HP2 O HPl2 ⊢
        have hDl : D.length ≤ 30 := by omega
        clear hD HPl2
        obtain ⟨k, p, l, m, u1, gi, t, us, gr, b⟩ := e
        simp only [cardOfv, Card.cells, Ent.cells] at HCd HP2
        generalize m + modev k = mo at HCd HP2
        generalize (if k = 1 then (⟨#[]⟩ : ByteArray) else datav ⟨k, p, l, m, u1, gi, t, us, gr, b⟩) = dat at HCd HP2
        go_upto_region 8 with fail
        generalize hw5 : World.alloc wo _ = w5
        have NB : Below wo.heap.size wo w5 := by rw [← hw5]; exact (Below.refl _ _).alloc (Nat.le_refl _) _
        have XE : EntO w5 wo.heap.size ⟨k, p, l, m, u1, gi, t, us, gr, b⟩ := by rw [← hw5]; exact EntO.new wo ⟨k, p, l, m, u1, gi, t, us, gr, b⟩
        clear hw5 c0 c1 c2 c3 c4 c5 c6 c7 c8 c9
        replace O := Lib.hid (O.out.keep NB)
        replace CM := Lib.hid (CM.out.below NB)
        replace R := Lib.hid (R.out.below NB zg)
        replace B := Lib.hid (btE B.out NB)
        have zx := XE.lt
        have zg5 : g < w5.heap.size := Nat.lt_of_lt_of_le zg NB.size
        have HI3 := Lib.hid (fun w' (hb : Below w5.heap.size w5 w') => HI2.out w' (Nat.lt_of_lt_of_le zg5 hb.size) (R.out.below hb zg5))
        have KC : Hid (∀ w', Below w5.heap.size w5 w' → w'.cell? ⟨wo.heap.size, 0, none⟩ = some (.int .i64 k) ∧ w'.cell? ⟨wo.heap.size, 1, none⟩ = some (.string p) ∧ w'.cell? ⟨wo.heap.size, 2, none⟩ = some (.string l) ∧ w'.cell? ⟨wo.heap.size, 3, none⟩ = some (.int .i64 m) ∧ w'.cell? ⟨wo.heap.size, 4, none⟩ = some (.int .i64 u1) ∧ w'.cell? ⟨wo.heap.size, 5, none⟩ = some (.int .i64 gi) ∧ w'.cell? ⟨wo.heap.size, 6, none⟩ = some (.int .i64 t) ∧ w'.cell? ⟨wo.heap.size, 7, none⟩ = some (.string us) ∧ w'.cell? ⟨wo.heap.size, 8, none⟩ = some (.string gr) ∧ w'.cell? ⟨wo.heap.size, 9, none⟩ = some (.string b)) := Lib.hid (fun w' hb => by
          obtain ⟨d0, d1, d2, d3, d4, d5, d6, d7, d8, d9⟩ := (XE.below hb zx).at.zero
          exact ⟨d0, d1, d2, d3, d4, d5, d6, d7, d8, d9⟩)
        clear NB HI2 R
        refine wp_region_cut 6 (by kernel_rfl) (fun w' => Below w5.heap.size w5 w') (fun x y => Below x.heap.size x y) (vBxG 7 48 w5.heap.size #[.int .i64 0, .int .i64 0, .int .i64 0, .int .i64 0, .int .i64 0, .int .i64 0, .string ⟨#[]⟩, .string ⟨#[]⟩] (fun d v => match d with | 23 => v = .agg #[.int .i64 k, .string p, .string l, .int .i64 m, .int .i64 u1, .int .i64 gi, .int .i64 t, .string us, .string gr, .string b] | 24 => v = .slice (some ⟨g, 0, none⟩) n cap | 25 => v = .int .i64 (i : Int) | 26 => v = .int .i64 x | 27 => v = .agg #[.int .i64 x, .int .i64 mo, .int .i64 u1, .int .i64 gi, .int .i64 0, .int .i64 t, .string p, .string dat] | _ => True)) (by kernel_rfl) (by kernel_rfl) ((Below.refl _ _).drew) (vBxG_keep _ _ _ _ _) (by simp) ?hops ?hend
        case hops =>
          simp only [List.take_succ_cons, List.take_zero, List.forall_mem_cons]
          refine ⟨?o23, ?o24, ?o25, ?o26, ?o27, ?o7, fun _ h => by cases h⟩
          case o23 =>
            intro Q a w2 hC hV hI
            have e6 : a.eval (.tmp 6) = .pointer (some ⟨wo.heap.size, 0, none⟩) := (hI 6 (by simp [Op.operands]) (by kernel_rfl)).trans rfl
            have f6 : a.tmps.getD 6 undef = .pointer (some ⟨wo.heap.size, 0, none⟩) := e6
            have g6 : a.tmps[6]?.getD undef = .pointer (some ⟨wo.heap.size, 0, none⟩) := by rw [← Array.getD_eq_getD_getElem?]; exact e6
            have hK := KC.out w2 hC
            refine op_val (.agg #[.int .i64 k, .string p, .string l, .int .i64 m, .int .i64 u1, .int .i64 gi, .int .i64 t, .string us, .string gr, .string b]) ?_ hC (Below.refl _ _) (by intro d hd; cases hd; exact rfl)
            (clear hV hI hC; go_simp <;> (first | rfl | simp | (rw [IntKind.wrap_i64]; omega)))
          case o24 =>
            intro Q a w2 hC hV hI
            have e0 : a.eval (.tmp 0) = .slice (some ⟨g, 0, none⟩) n cap := (hI 0 (by simp [Op.operands]) (by kernel_rfl)).trans rfl
            have f0 : a.tmps.getD 0 undef = .slice (some ⟨g, 0, none⟩) n cap := e0
            have g0 : a.tmps[0]?.getD undef = .slice (some ⟨g, 0, none⟩) n cap := by rw [← Array.getD_eq_getD_getElem?]; exact e0
            refine op_val (.slice (some ⟨g, 0, none⟩) n cap) ?_ hC (Below.refl _ _) (by intro d hd; cases hd; exact rfl)
            (clear hV hI hC; go_simp <;> (first | rfl | simp | (rw [IntKind.wrap_i64]; omega)))
          case o25 =>
            intro Q a w2 hC hV hI
            have e5 : a.eval (.tmp 5) = .int .i64 (i : Int) := (hI 5 (by simp [Op.operands]) (by kernel_rfl)).trans rfl
            have f5 : a.tmps.getD 5 undef = .int .i64 (i : Int) := e5
            have g5 : a.tmps[5]?.getD undef = .int .i64 (i : Int) := by rw [← Array.getD_eq_getD_getElem?]; exact e5
            refine op_val (.int .i64 (i : Int)) ?_ hC (Below.refl _ _) (by intro d hd; cases hd; exact rfl)
            (clear hV hI hC; go_simp <;> (first | rfl | simp | (rw [IntKind.wrap_i64]; omega)))
          case o26 =>
            intro Q a w2 hC hV hI
            have e24 : a.eval (.tmp 24) = .slice (some ⟨g, 0, none⟩) n cap := hV 24 (by simp [Op.operands, Call.operands]) (by kernel_rfl)
            have f24 : a.tmps.getD 24 undef = .slice (some ⟨g, 0, none⟩) n cap := e24
            have g24 : a.tmps[24]?.getD undef = .slice (some ⟨g, 0, none⟩) n cap := by rw [← Array.getD_eq_getD_getElem?]; exact e24
            have e25 : a.eval (.tmp 25) = .int .i64 (i : Int) := hV 25 (by simp [Op.operands, Call.operands]) (by kernel_rfl)
            have f25 : a.tmps.getD 25 undef = .int .i64 (i : Int) := e25
            have g25 : a.tmps[25]?.getD undef = .int .i64 (i : Int) := by rw [← Array.getD_eq_getD_getElem?]; exact e25
            refine op_call (f := 107) (args := #[.slice (some ⟨g, 0, none⟩) n cap, .int .i64 (i : Int)]) (R := fun v y => v = .int .i64 x ∧ Below w2.heap.size w2 y) ?_ ((HI3.out w2 hC).mono ?_) ?_
            · (clear hV hI hC; go_simp <;> (first | rfl | simp | (rw [IntKind.wrap_i64]; omega)))
            · rintro e y ⟨rfl, hb⟩; exact ⟨_, rfl, rfl, hb⟩
            · rintro v y ⟨rfl, hb⟩; exact ⟨hC.trans (hb.mono hC.size), hb, by intro d hd; cases hd; exact rfl⟩
          case o27 =>
            intro Q a w2 hC hV hI
            have e23 : a.eval (.tmp 23) = .agg #[.int .i64 k, .string p, .string l, .int .i64 m, .int .i64 u1, .int .i64 gi, .int .i64 t, .string us, .string gr, .string b] := hV 23 (by simp [Op.operands, Call.operands]) (by kernel_rfl)
            have f23 : a.tmps.getD 23 undef = .agg #[.int .i64 k, .string p, .string l, .int .i64 m, .int .i64 u1, .int .i64 gi, .int .i64 t, .string us, .string gr, .string b] := e23
            have g23 : a.tmps[23]?.getD undef = .agg #[.int .i64 k, .string p, .string l, .int .i64 m, .int .i64 u1, .int .i64 gi, .int .i64 t, .string us, .string gr, .string b] := by rw [← Array.getD_eq_getD_getElem?]; exact e23
            have e26 : a.eval (.tmp 26) = .int .i64 x := hV 26 (by simp [Op.operands, Call.operands]) (by kernel_rfl)
            have f26 : a.tmps.getD 26 undef = .int .i64 x := e26
            have g26 : a.tmps[26]?.getD undef = .int .i64 x := by rw [← Array.getD_eq_getD_getElem?]; exact e26
            refine op_call (f := 106) (args := #[.agg #[.int .i64 k, .string p, .string l, .int .i64 m, .int .i64 u1, .int .i64 gi, .int .i64 t, .string us, .string gr, .string b], .int .i64 x]) (R := fun v y => v = .agg #[.int .i64 x, .int .i64 mo, .int .i64 u1, .int .i64 gi, .int .i64 0, .int .i64 t, .string p, .string dat] ∧ Below w2.heap.size w2 y) ?_ ((HCd.out w2).mono ?_) ?_
            · (clear hV hI hC; go_simp <;> (first | rfl | simp | (rw [IntKind.wrap_i64]; omega)))
            · rintro e y ⟨rfl, hb⟩; exact ⟨_, rfl, rfl, hb⟩
            · rintro v y ⟨rfl, hb⟩; exact ⟨hC.trans (hb.mono hC.size), hb, by intro d hd; cases hd; exact rfl⟩
          case o7 =>
            intro Q a w2 hC hV hI
            refine op_val (.pointer (some ⟨w2.heap.size, 0, none⟩)) (w' := w2.alloc (.cells #[.int .i64 0, .int .i64 0, .int .i64 0, .int .i64 0, .int .i64 0, .int .i64 0, .string ⟨#[]⟩, .string ⟨#[]⟩] 48)) ?_ (hC.alloc hC.size _) ((Below.refl _ _).alloc (Nat.le_refl _) _) ?_
            · (clear hV hI hC; go_simp <;> (first | rfl | simp | (rw [IntKind.wrap_i64]; omega)))
            · intro d hd; cases hd; exact ⟨w2.heap.size, rfl, hC.size, heap_lastG _ _⟩
        case hend =>
          intro f w6 hC hall
          simp only [List.take_succ_cons, List.take_zero, List.drop_succ_cons, List.drop_zero] at hall ⊢
          simp only [List.forall_mem_cons] at hall
          obtain ⟨h23, h24, h25, h26, h27, h7, _⟩ := hall
          replace h23 : f 23 = .agg #[.int .i64 k, .string p, .string l, .int .i64 m, .int .i64 u1, .int .i64 gi, .int .i64 t, .string us, .string gr, .string b] := h23 23 rfl
          replace h24 : f 24 = .slice (some ⟨g, 0, none⟩) n cap := h24 24 rfl
          replace h25 : f 25 = .int .i64 (i : Int) := h25 25 rfl
          replace h26 : f 26 = .int .i64 x := h26 26 rfl
          replace h27 : f 27 = .agg #[.int .i64 x, .int .i64 mo, .int .i64 u1, .int .i64 gi, .int .i64 0, .int .i64 t, .string p, .string dat] := h27 27 rfl
          obtain ⟨G7, hG7, hGB7, hGO7⟩ : ∃ G, f 7 = .pointer (some ⟨G, 0, none⟩) ∧ w5.heap.size ≤ G ∧ w6.heap[G]? = some (.cells #[.int .i64 0, .int .i64 0, .int .i64 0, .int .i64 0, .int .i64 0, .int .i64 0, .string ⟨#[]⟩, .string ⟨#[]⟩] 48 (0, 0)) := h7 7 rfl
          simp only [putAll, Act.put, List.setIfInBounds_toArray, List.set_cons_succ, List.set_cons_zero, h23, h24, h25, h26, h27, hG7]
          clear h23 h24 h25 h26 h27 hG7 h7
          clear KC HI3
          replace O := Lib.hid (O.out.keep hC)
          replace CM := Lib.hid (CM.out.below hC)
          replace XE := XE.below hC zx
          replace B := Lib.hid (btE B.out hC)
          have XO : CardO w6 G7 zeroC := hGO7
          have zo6 : go < w6.heap.size := (World.ownsRow.lt O.out.1 go rfl).2
          have hgo : ¬ G7 = go := by have := (World.ownsRow.lt O.out.1 go rfl).2; have := zo; omega
          have hm7 : ¬ mb = G7 := by omega
          have hx7 : ¬ wo.heap.size = G7 := by omega
          have hw7 : w.heap.size ≤ G7 := by omega
          obtain ⟨d0, d1, d2, d3, d4, d5, d6, d7⟩ := XO.at.zero
          have f0 := XO.fz 0
          have f1 := XO.fz 1
          have f2 := XO.fz 2
          have f3 := XO.fz 3
          have f4 := XO.fz 4
          have f5 := XO.fz 5
          have f6 := XO.fz 6
          have f7 := XO.fz 7
          have XP := XO.put ⟨x, mo, u1, gi, 0, t, p, dat⟩
          have OP := OwnC.kept (w' := putOC w6 G7 ⟨x, mo, u1, gi, 0, t, p, dat⟩) O.out (row := some G7) (grown_putOC w6 G7 _) (fun e => hgo (Option.some.inj e).symm)
          have CP := CM.out.kept (w' := putOC w6 G7 ⟨x, mo, u1, gi, 0, t, p, dat⟩) (row := some G7) (grown_putOC w6 G7 _) (fun e => hm7 (Option.some.inj e))
          have BP := below_putOC (g := G7) B.out hw7 ⟨x, mo, u1, gi, 0, t, p, dat⟩
          simp only [putOC] at XP OP CP BP
          go_upto_region 9 with fail
          obtain ⟨w7, hw7e⟩ : ∃ y, y = ((((((((w6.setCell ⟨G7, 0, none⟩ (.int .i64 x)).setCell ⟨G7, 1, none⟩ (.int .i64 mo)).setCell ⟨G7, 2, none⟩ (.int .i64 u1)).setCell ⟨G7, 3, none⟩ (.int .i64 gi)).setCell ⟨G7, 4, none⟩ (.int .i64 0)).setCell ⟨G7, 5, none⟩ (.int .i64 t)).setCell ⟨G7, 6, none⟩ (.string p)).setCell ⟨G7, 7, none⟩ (.string dat)) := ⟨_, rfl⟩
          rw [← hw7e] at XP OP CP BP ⊢
          clear hw7e d0 d1 d2 d3 d4 d5 d6 d7 f0 f1 f2 f3 f4 f5 f6 f7 O CM B XE XO hGO7
          have O := Lib.hid OP
          have B := Lib.hid BP
          obtain ⟨Dm, hown, hD⟩ := CP
          have OM := Lib.hid hown
          have HDm := Lib.hid hD
          have HLk : Hid (Dm.atKey (keyIn x) (.lit (.int .i64 0)) = .lit (.int .i64 ((countTo L x i : Nat) : Int))) := Lib.hid (hD.2 x)
          obtain ⟨cx, hcx⟩ : ∃ c, countTo L x i = c := ⟨_, rfl⟩
          rw [hcx] at HLk HCp2 hcb
          clear OP BP hown hD hcx
          have XC := Lib.hid XP
          obtain ⟨d0, d1, d2, d3, d4, d5, d6, d7⟩ := XP.at.zero
          clear XP
          go_upto_region 10 with (first | (at_lookup; refine wpList_lookup_own_int _ rfl _ _ 119 rfl 3 3 .i64 lawIn Tryz.underlying119 Tryz.underlying3 (zeroIn _) mb i Dm rfl OM.out _ _ rfl (key_in (by omega) (by omega)) ?_; intro c' hat _; obtain rfl : c' = (cx : Int) := (by have := hat.symm.trans HLk.out; simpa using this); clear hat) | (at_mapUpdate; refine wpList_mapUpdate_own _ rfl _ _ _ 119 rfl 3 3 lawIn Tryz.underlying119 _ mb i Dm rfl OM.out (by simp only [maxLen]; omega) _ _ _ rfl rfl (key_in (by omega) (by omega)) _ [] (plainElem_int Tryz.underlying3 (wf_in (by omega) (by omega))) ?_; intro w8 hown2 hgrow2))
          have CM8 : Hid (CntAt w8 mb (i + 1) (fun x => ((countTo L x (i + 1) : Nat) : Int))) := Lib.hid (by rw [← HCp2.out]; exact ⟨_, hown2, HDm.out.put x _⟩)
          have hne := card_map_ne O.out ⟨Dm, OM.out, HDm.out⟩
          have O8 : Hid (OwnC w8 w.heap.size (.slice (some ⟨go, 0, none⟩) D.length co) D) := Lib.hid (O.out.kept hgrow2 (fun e => hne e.symm))
          have X8 := XC.out.grown hgrow2 (fun e => hm7 (Option.some.inj e).symm)
          have B8 : Hid (Below w.heap.size w w8) := Lib.hid (B.out.grown hgrow2 B.out.size (fun b hb => by cases hb; omega))
          have OW := Lib.hid O8.out.1
          have hsz8 := B8.out.size
          clear hown2 hgrow2 hne O OM HDm HLk B XC d0 d1 d2 d3 d4 d5 d6 d7 HCp2
          obtain ⟨d0, d1, d2, d3, d4, d5, d6, d7⟩ := X8.at.zero
          go_wp2_with (at_builtin; refine wpList_append_own _ rfl _ _ 42 rfl w.heap.size 48 i0 (.agg #[.int .i64 0, .int .i64 0, .int .i64 0, .int .i64 0, .int .i64 0, .int .i64 0, .string ⟨#[]⟩, .string ⟨#[]⟩]) 8 80 Tryz.underlying42 hi0 hz0 hz1 hz2 rfl (by decide) _ D.length (valsC D) rfl ?c0q ⟨w8.heap.size, 0, none⟩ 1 1 (valsC [⟨x, mo, u1, gi, 0, t, p, dat⟩]) rfl (valsC_len _) ?c1q ?c2q ?c3q ?c4q ?c5q ?_)
          case c0q => exact World.ownsRow.alloc OW.out _
          case c1q => intro jj uu hu; rw [valsC_one] at hu; exact hu
          case c2q => exact valsC_onecell _
          any_goals (first | (simp only [maxLen]; omega) | omega | (simp; omega))
          intro v' w9 hown hgrow hnil
          have NB : Below w8.heap.size w8 (w8.alloc (.cells (Card.cells ⟨x, mo, u1, gi, 0, t, p, dat⟩).toArray 48)) := (Below.refl _ _).alloc (Nat.le_refl _) _
          have hne9 := card_map_ne O8.out CM8.out
          have O9 : Hid (OwnC w9 w.heap.size v' (cardsP L (i + 1))) := Lib.hid (by rw [HP2.out]; exact own_appC hown rfl rfl hnil)
          have CM9 := Lib.hid ((CM8.out.below NB).kept hgrow hne9)
          have B9 : Hid (Below w.heap.size w w9) := Lib.hid ((btE B8.out NB).grown hgrow (by have := NB.size; omega) (fun b hb => (World.ownsRow.lt OW.out b hb).1))
          clear hown hgrow hnil NB hne9 O8 CM8 B8 OW X8 d0 d1 d2 d3 d4 d5 d6 d7
          go_wp2_with fail
          go_roundw
          case rel => exact ⟨i + 1, by go_num, by omega, O9.out, CM9.out, B9.out⟩
          case measure => simp [intOf]; omega
      · obtain rfl : i = n := by omega
        have hlt2 : ¬ (i : Int) < (i : Int) := by omega
        have HPl2 := HPl.out i
        rw [← HQz.out] at O HPl2
        obtain ⟨go, co, rfl, _, zo, hbo, _⟩ := O.out.open
        rw [HPl2] at *
        clear HPl HP HZ HCp HI HPl2
        have hmm2 := CM.out.lt
        go_wp2_with fail
        go_loopw [8, 9, 40] (fun _ _ u w2 => ∃ j : Nat, u = .int .i64 j ∧ j ≤ i ∧ OwnC w2 w.heap.size (.slice (some ⟨go, 0, none⟩) i co) (cardsQ L i j) ∧ CntAt w2 mb i (fun x => ((countTo L x i : Nat) : Int)) ∧ Below w.heap.size w w2) (fun _ _ u _ => i - (intOf u).toNat)
        case atStart => exact ⟨0, rfl, Nat.zero_le _, O.out, CM.out, B.out⟩
        case round =>
          obtain ⟨j, rfl, hj, ho, hc, hb⟩ := hrel
          obtain ⟨wp, hwp⟩ : ∃ wp, wp = wr := ⟨_, rfl⟩
          subst hwp
          clear O CM B hmm2
          have O := Lib.hid ho
          have CM := Lib.hid hc
          have B := Lib.hid hb
          have hszp := B.out.size
          clear ho hc hb
          by_cases hltj : j < i
          · have hltj2 : (j : Int) < (i : Int) := by omega
            obtain ⟨e, he, hmd, hxd, hz⟩ := HE2.out j hltj
            have R := Lib.hid (H1.out.below B.out hg)
            have zg : g < wp.heap.size := by omega
            have HA := HQa.out j e he hltj
            have HS := HQs.out j e he
            have HFd := HF2.out j e he
            have HLe := HQl.out j hj
            have HTj := HTl.out j
            have hcb := HCl.out (inov L j e) i
            obtain ⟨c0, c1, c2, c3, c4, c5, c6, c7, c8, c9⟩ := R.out.ten he
            rw [HFd] at HS
            clear he hmd hz R HFd
            rw [HA] at O HLe
            generalize inov L j e = x at O HS hcb hxd HLe
            obtain ⟨A, hA⟩ : ∃ A, cardsTo L j = A := ⟨_, rfl⟩
            obtain ⟨T, hT⟩ : ∃ T, (cardsP L i).drop (j + 1) = T := ⟨_, rfl⟩
            rw [hA] at O HS HTj HLe
            rw [hT] at O HS HLe
            clear hA hT HA
            obtain ⟨k, p, l, m, u1, gi, t, us, gr, b⟩ := e
            have hgw := (World.ownsRow.lt O.out.1 go rfl).2
            have NB : Below wp.heap.size wp (wp.alloc (.cells (Ent.cells ⟨k, p, l, m, u1, gi, t, us, gr, b⟩).toArray 45)) := (Below.refl _ _).alloc (Nat.le_refl _) _
            have XE := Lib.hid (EntO.new wp ⟨k, p, l, m, u1, gi, t, us, gr, b⟩)
            replace O := Lib.hid (O.out.keep NB)
            replace CM := Lib.hid (CM.out.below NB)
            replace B := Lib.hid (btE B.out NB)
            simp only [Ent.cells] at XE O CM B HS
            clear NB
            go_upto_region 15 with fail
            obtain ⟨w3, hw3⟩ : ∃ y, y = wp.alloc (.cells #[.int .i64 k, .string p, .string l, .int .i64 m, .int .i64 u1, .int .i64 gi, .int .i64 t, .string us, .string gr, .string b] 45) := ⟨_, rfl⟩
            simp only [List.toArray] at XE O CM B
            rw [← hw3] at XE O CM B ⊢
            clear hw3 c0 c1 c2 c3 c4 c5 c6 c7 c8 c9
            have hin : (valsC (A ++ cardOfv x ⟨k, p, l, m, u1, gi, t, us, gr, b⟩ :: T))[A.length * 8 + 0]? = some (.int .i64 x) := by
              rw [valsC_get _ _ _ (by omega)]
              simp [cardOfv, Card.cells]
            have hc0 := O.out.row.1 _ _ hin
            have hin4 : ∃ y, (valsC (A ++ cardOfv x ⟨k, p, l, m, u1, gi, t, us, gr, b⟩ :: T))[A.length * 8 + 4]? = some y := by
              rw [valsC_get _ _ _ (by omega)]
              simp [Card.cells]
            obtain ⟨y4, hin4⟩ := hin4
            have hc4 := O.out.row.1 _ _ hin4
            have hfz := O.out.1
            rw [HLe] at hfz
            have hf4 : w3.frozen? ⟨go, A.length * 8 + 4, none⟩ = false := World.ownsRow.frozenAt hfz (A.length * 8 + 4)
            clear hin hin4 hfz
            rw [HTj] at hc0 hc4 hf4
            simp only [Nat.add_zero] at hc0
            obtain ⟨Dm, hown, hD⟩ := CM.out
            have OM := Lib.hid hown
            have HLk : Hid (Dm.atKey (keyIn x) (.lit (.int .i64 0)) = .lit (.int .i64 ((countTo L x i : Nat) : Int))) := Lib.hid (hD.2 x)
            have hne := card_map_ne O.out CM.out
            obtain ⟨cx, hcx⟩ : ∃ c, countTo L x i = c := ⟨_, rfl⟩
            rw [hcx] at HLk HS hcb
            clear hown hD hcx
            have O4 := Lib.hid (rowC_count (n := j) HLe.symm O.out HTj.symm (cx : Int))
            have hgo : ¬ wp.heap.size = go := by omega
            have CM4 := Lib.hid (CM.out.kept (w' := w3.setCell ⟨go, j * 8 + 4, none⟩ (.int .i64 (cx : Int))) (row := some go) (grown_setC (grownOC w3 _) _ _) hne)
            have X4 := Lib.hid (XE.out.other (b := go) (i := j * 8 + 4) (v := .int .i64 (cx : Int)) hgo)
            have B4 := Lib.hid (B.out.setCell (p := ⟨go, j * 8 + 4, none⟩) hbo (.int .i64 (cx : Int)))
            clear O CM XE B
            go_upto_region 16 with ((at_lookup; refine wpList_lookup_own_int _ rfl _ _ 119 rfl 3 3 .i64 lawIn Tryz.underlying119 Tryz.underlying3 (zeroIn _) mb i Dm rfl OM.out _ _ rfl (key_in (by omega) (by omega)) ?_; intro c' hat _; obtain rfl : c' = (cx : Int) := (by have := hat.symm.trans HLk.out; simpa using this); clear hat))
            obtain ⟨w4, hw4⟩ : ∃ y, y = w3.setCell ⟨go, j * 8 + 4, none⟩ (.int .i64 (cx : Int)) := ⟨_, rfl⟩
            rw [← hw4] at O4 CM4 X4 B4 ⊢
            clear hw4 hc0 hc4 hf4 hne OM HLk
            obtain ⟨d0, d1, d2, d3, d4, d5, d6, d7, d8, d9⟩ := X4.out.at.zero
            by_cases hk : k = 1
            · subst hk
              have HS2 : Hid (cardsQ L i (j + 1) = A ++ withCount (withCount (cardOfv x ⟨1, p, l, m, u1, gi, t, us, gr, b⟩) (cx : Int)) 2 :: T) := Lib.hid (by rw [HS]; rfl)
              have hin4 : ∃ y, (valsC (A ++ withCount (cardOfv x ⟨1, p, l, m, u1, gi, t, us, gr, b⟩) (cx : Int) :: T))[A.length * 8 + 4]? = some y := by
                rw [valsC_get _ _ _ (by omega)]
                simp [Card.cells]
              obtain ⟨y5, hin4⟩ := hin4
              have hc4 := O4.out.row.1 _ _ hin4
              have HLe2 : i = (A ++ withCount (cardOfv x ⟨1, p, l, m, u1, gi, t, us, gr, b⟩) (cx : Int) :: T).length := by rw [← HLe]; simp
              have hfz := O4.out.1
              rw [← HLe2] at hfz
              have hf4 : w4.frozen? ⟨go, A.length * 8 + 4, none⟩ = false := World.ownsRow.frozenAt hfz (A.length * 8 + 4)
              rw [HTj] at hc4 hf4
              clear hin4 hfz
              have hne := card_map_ne O4.out CM4.out
              have O5 := Lib.hid (rowC_count (n := j) HLe2 O4.out HTj.symm 2)
              have CM5 := Lib.hid (CM4.out.kept (w' := w4.setCell ⟨go, j * 8 + 4, none⟩ (.int .i64 2)) (row := some go) (grown_setC (grownOC w4 _) _ _) hne)
              have B5 := Lib.hid (B4.out.setCell (p := ⟨go, j * 8 + 4, none⟩) hbo (.int .i64 2))
              clear O4 CM4 X4 B4 HS HLe2
              go_wp2_with fail
              go_roundw
              case rel => exact ⟨j + 1, by go_num, by omega, by rw [HS2.out]; exact O5.out, CM5.out, B5.out⟩
              case measure => simp [intOf]; omega
            · have hk2 : (k == 1) = false := by simpa using hk
              have HS2 : Hid (cardsQ L i (j + 1) = A ++ withCount (cardOfv x ⟨k, p, l, m, u1, gi, t, us, gr, b⟩) (cx : Int) :: T) := Lib.hid (by rw [HS, if_neg hk])
              clear HS hk X4
              go_wp2_with fail
              go_roundw
              case rel => exact ⟨j + 1, by go_num, by omega, by rw [HS2.out]; exact O4.out, CM4.out, B4.out⟩
              case measure => simp [intOf]; omega
          · obtain rfl : j = i := by omega
            have hltj2 : ¬ (j : Int) < (j : Int) := by omega
            rw [HQe.out, ← HF.out] at O
            go_wp2_with fail
            go_ret
            exact ⟨_, rfl, O.out, B.out⟩
end Go.Proofs.YtcnmbolmgifgfabGreatDoor

/- What both formats' writing shares: rows of bytes beside a box of functions and a row of cards. -/
namespace Go.Proofs.YtcnmbolmgifgfabGreatDoor
open Go.ChangeShapes Go.WideShapes Go.ChangeAt Go.RowKit Go.Deep

theorem own_neW {w : World} {base : Nat} {e t : TypeId} {v : Value} {n g : Nat} {xs : List Value} {cs : Array Value} {fr : Nat × Nat} (h : w.ownsRow base e 1 v n xs) (hg : w.heap[g]? = some (.cells cs t fr)) (ht : ¬ t = e) : some g ≠ v.ownBlock := by
  intro e1
  rcases h.2 with ⟨h0, _⟩ | ⟨g', cap', cur, hv, hg', hh, _⟩
  · subst h0; simp [Value.ownBlock] at e1
  · subst hv
    simp [Value.ownBlock] at e1
    subst e1
    rw [hg] at hh
    simp at hh
    exact ht hh.2.1
theorem ownB_belowW {w w' : World} {base : Nat} {v : Value} {l : List UInt8} (h : OwnB w base v l) (hb : Below w.heap.size w w') : OwnB w' base v l :=
  World.ownsRow.kept h (row := none) ⟨hb.os, hb.tape, hb.output, hb.size, fun k hk _ => hb.block k hk⟩ (by cases hv : v.ownBlock <;> simp)
theorem textW {w : World} {base n : Nat} {v : Value} {l : List UInt8} {s : ByteArray} (hn : n = l.length + s.size) (h : w.ownsRow base 5 1 v n (byteVals l ++ Lib.strCells s)) : OwnB w base v (l ++ s.data.toList) := by
  subst hn
  have e : byteVals l ++ Lib.strCells s = byteVals (l ++ s.data.toList) := by simp [byteVals, Lib.strCells]
  rw [e, show l.length + s.size = (l ++ s.data.toList).length from by simp] at h
  exact h
theorem ba_appW (a b : ByteArray) : (⟨(a.data.toList ++ b.data.toList).toArray⟩ : ByteArray) = a ++ b := by
  apply ba_ext
  simp
theorem ownC_heapW {w : World} {base g n cap : Nat} {L : List Card} (h : OwnC w base (.slice (some ⟨g, 0, none⟩) n cap) L) : ∃ cs fr, w.heap[g]? = some (.cells cs 48 fr) := by
  rcases h.1.2 with ⟨h0, _⟩ | ⟨g', cap', cur, hv, _, hh, _⟩
  · cases h0
  · cases hv
    exact ⟨_, _, hh⟩
theorem rowB_neW {w : World} {base b : Nat} {v v' : Value} {L : List Card} {l : List UInt8} (h : OwnC w b v' L) (o : OwnB w base v l) : v'.ownBlock ≠ v.ownBlock := by
  obtain ⟨g, cap, rfl, _⟩ := h.open
  obtain ⟨cs, fr, hh⟩ := ownC_heapW h
  have := own_neW o hh (by decide)
  simpa [Value.ownBlock] using this
theorem heap_newW (w : World) (o : Obj) (g : Nat) (hg : g = w.heap.size) : (w.alloc o).heap[g]? = some o := by subst hg; exact heap_lastG w o
theorem wpList_store_eqW {P : Program} {ops : Array Oper} {rest : List Oper} {o : Oper} {a : Act} {w w' : World} {Q : Exit → Act → World → Prop} (hgd : o.guard = none) (ty : TypeId) (x y : Operand) (ho : o.op = .store ty x y)
    (g : Addr) (hx : a.eval x = .pointer (some g)) {v : Value} (hy : a.eval y = v) (hr : (storeVar ty g v).run P w = .ok () w') (h : wpList P ops Q rest (a.put o.dst undef) w') : wpList P ops Q (o :: rest) a w :=
  wpList_plain hgd fun _ hK => by
    unfold Oper.wp execOp
    simp only [ho, hx, hy, Instr.storeAt, Instr.sureAddr, Sem.run_bind, Sem.run_pure, Result.andThen_ok, hr]
    exact hK _ _ h
theorem Tryz.sizeCF : (Tryz.prog.info? 54).map (·.size) = some 3 := by kernel_rfl
end Go.Proofs.YtcnmbolmgifgfabGreatDoor

/- Contract of impl.cardFormat.write at the format with octal headers. -/
namespace Go.Proofs.YtcnmbolmgifgfabGreatDoor
open Go.ChangeShapes Go.WideShapes Go.ChangeAt Go.RowKit Go.Deep

set_option maxHeartbeats 6400000 in
set_option maxRecDepth 8000 in
theorem write_odc (L : List Ent) (n g cap : Nat) (w : World) (hn : n = L.length) (hm : n ≤ 1048576) (hcap : n ≤ cap) (hg : g < w.heap.size) (hsm : SmallL L) (hT : Tabs w) (h1 : RowE w g L) :
    Calls Tryz.prog 31 #[.agg #[.func (.func 64) #[] #[], .func (.func 65) #[] #[], .func (.func 66) #[] #[]], .slice (some ⟨g, 0, none⟩) n cap] w fun e w' => e = .returned (.tuple #[.string (putOdcT L), .bool (putOdcB L)]) ∧ Below w.heap.size w w' := by
  obtain ⟨i0, hi0, hz0, hz1, hz2⟩ := info_parts Tryz.info5
  have H1 := Lib.hid h1
  have HK := Lib.hid (fun w (hg : g < w.heap.size) (h : RowE w g L) => listOk_impl L n g cap w hn (by omega) hg hsm h)
  have HC := Lib.hid (fun w (hg : g < w.heap.size) (h : RowE w g L) => cardsOf_impl L n g cap w hn (by omega) hcap hg hsm h)
  have HG : Hid (∀ i, i < n → ∃ e, L[i]? = some e ∧ esz e ≤ 4194304) := Lib.hid (fun i hi => by obtain ⟨e, he⟩ := getE' (L := L) (i := i) (by omega); exact ⟨e, he, hsm.get he⟩)
  have HNo := Lib.hid (putOdc_no (L := L))
  have HBad := Lib.hid (fun i e (he : L[i]? = some e) h => putOdc_bad he h)
  have HYes : Hid (listOkv L = true → (∀ j, j < n → ∀ e, L[j]? = some e → odcFits e = true) → putOdcB L = true ∧ putOdcT L = odcT (cardsv L) n ++ cardTextv lastC) := Lib.hid (by rw [hn]; exact putOdc_yes)
  have HQ : Hid (listOkv L = true → (cardsv L).length = n ∧ n ≤ 30) := Lib.hid (fun h => ⟨by rw [hn]; exact cardsv_len h, by rw [hn]; exact listOk_len h⟩)
  have HSQ := Lib.hid (smallQ_of hsm)
  have HLast := Lib.hid (cardText_le lastC)
  have HPut : Hid (∀ (q0 q1 q2 q3 q4 q5 : Int) (qp qd : ByteArray) (w' : World), Below w.heap.size w w' → qp.size ≤ 4194304 → qd.size ≤ 4194304 → Calls Tryz.prog 65 #[.agg #[.int .i64 q0, .int .i64 q1, .int .i64 q2, .int .i64 q3, .int .i64 q4, .int .i64 q5, .string qp, .string qd]] w' fun e w'' => e = .returned (.string (cardTextv ⟨q0, q1, q2, q3, q4, q5, qp, qd⟩)) ∧ Below w'.heap.size w' w'') := Lib.hid (fun q0 q1 q2 q3 q4 q5 qp qd w' hb hp hd => putCard_impl q0 q1 q2 q3 q4 q5 qp qd w' hp hd (hT.below hb))
  generalize putOdcB L = ok at HNo HBad HYes
  generalize putOdcT L = r at HNo HBad HYes
  generalize listOkv L = lk at HK HNo HYes HQ
  generalize cardsv L = Q at HC HYes HQ HSQ
  clear h1 hsm hn hT
  go_enter Tryz.func31, Tryz.ntmps31
  go_upto_region 1 with fail
  generalize hw1 : World.alloc w _ = wb
  have BF : Hid (wb.heap[w.heap.size]? = some (.cells #[.func (.func 64) #[] #[], .func (.func 65) #[] #[], .func (.func 66) #[] #[]] 54 (0, 0))) := Lib.hid (by rw [← hw1]; exact heap_newW _ _ _ rfl)
  have B : Hid (Below w.heap.size w wb) := Lib.hid (by rw [← hw1]; exact (Below.refl _ _).alloc (Nat.le_refl _) _)
  clear hw1
  go_wp2_with fail
  refine (HK.out _ (by have := B.out.size; omega) (H1.out.below B.out hg)).mono ?_
  rintro e w1 ⟨rfl, hb⟩
  replace BF := Lib.hid ((hb.block _ (Array.getElem?_eq_some_iff.1 BF.out).1).trans BF.out)
  replace B := Lib.hid (btE B.out hb)
  clear hb
  cases lk with
  | false =>
    have HF := Lib.hid (HNo.out rfl)
    go_wp2_with fail
    go_ret2
    exact ⟨by rw [HF.out.1, HF.out.2]; rfl, B.out⟩
  | true =>
    obtain ⟨hql, hn30⟩ := HQ.out rfl
    have HY := Lib.hid (HYes.out rfl)
    clear HK HNo HYes HQ
    go_wp2_with fail
    refine (HC.out _ (by have := B.out.size; omega) (H1.out.below B.out hg)).mono ?_
    rintro e w2 ⟨v, rfl, ho, hb⟩
    have OC := Lib.hid ho
    obtain ⟨gc, cc, rfl, hrc, zc, _, _⟩ := ho.open
    replace BF := Lib.hid ((hb.block _ (Array.getElem?_eq_some_iff.1 BF.out).1).trans BF.out)
    replace B := Lib.hid (btE B.out hb)
    have O0 : Hid (OwnB w2 w.heap.size (.slice none 0 0) []) := Lib.hid ⟨rfl, .inl ⟨rfl, rfl⟩⟩
    clear ho hrc hb HC
    go_wp2_with fail
    go_loopw [6, 7, 8, 15] (fun v _ _ u wr => ∃ i : Nat, u = .int .i64 i ∧ i ≤ n ∧ (∀ j, j < i → ∀ e, L[j]? = some e → odcFits e = true) ∧ OwnB wr w.heap.size v (odcT Q i).data.toList ∧ OwnC wr w1.heap.size (.slice (some ⟨gc, 0, none⟩) Q.length cc) Q ∧ wr.heap[w.heap.size]? = some (.cells #[.func (.func 64) #[] #[], .func (.func 65) #[] #[], .func (.func 66) #[] #[]] 54 (0, 0)) ∧ Below w.heap.size w wr) (fun _ _ _ u _ => n - (intOf u).toNat)
    case atStart => exact ⟨0, rfl, Nat.zero_le _, fun j hj => by omega, O0.out, OC.out, BF.out, B.out⟩
    case round =>
      obtain ⟨i, rfl, hi, hf, ho, hoc, hbf, hb⟩ := hrel
      clear O0 OC BF B
      have HFt := Lib.hid hf
      have O := Lib.hid ho
      have OC := Lib.hid hoc
      have BF := Lib.hid hbf
      have B := Lib.hid hb
      have hszB := B.out.size
      clear hf ho hoc hbf hb
      have hle := odcT_le HSQ.out i (by omega)
      by_cases hlt : i < n
      · have hlt2 : (i : Int) < (n : Int) := by omega
        have hlt3 : (i : Int) < (Q.length : Int) := by omega
        obtain ⟨e, he, hz⟩ := HG.out i hlt
        obtain ⟨q, hq⟩ : ∃ q, Q[i]? = some q := ⟨Q[i], List.getElem?_eq_getElem (by omega)⟩
        have hqs := HSQ.out _ (List.mem_of_getElem? hq)
        have hcl := cardText_le q
        have HSt := Lib.hid (odcT_step hq)
        have HB2 := Lib.hid (HBad.out i e he)
        have HFn : Hid (odcFits e = true → ∀ j, j < i + 1 → ∀ e, L[j]? = some e → odcFits e = true) := Lib.hid (fun h j hj e' he' => by
          by_cases hji : j = i
          · subst hji; rw [he] at he'; obtain rfl := Option.some.inj he'; exact h
          · exact HFt.out j (by omega) e' he')
        have C10 := Lib.hid ((H1.out.below B.out hg).ten he)
        obtain ⟨d0, d1, d2, d3, d4, d5, d6, d7⟩ := OC.out.row.1.cols hq
        clear he hq HBad HG
        obtain ⟨k, p, l, m, u1, gi, t, us, gr, b⟩ := e
        obtain ⟨hp, hl, hus, hgr, hbz⟩ := small_parts hz
        have HO := Lib.hid (fun w => odcFits_impl k p l m u1 gi t us gr b w hp hl hus hgr)
        simp only at C10
        clear hz hp hl hus hgr hbz
        generalize odcFits ⟨k, p, l, m, u1, gi, t, us, gr, b⟩ = fb at HB2 HFn HO
        obtain ⟨q0, q1, q2, q3, q4, q5, qp, qd⟩ := q
        simp only at d0 d1 d2 d3 d4 d5 d6 d7 hqs hcl
        have NB : Below wr.heap.size wr (wr.alloc (.cells (Card.cells ⟨q0, q1, q2, q3, q4, q5, qp, qd⟩).toArray 48)) := (Below.refl _ _).alloc (Nat.le_refl _) _
        have XC := Lib.hid (CardO.new wr ⟨q0, q1, q2, q3, q4, q5, qp, qd⟩)
        have zgx : g < wr.heap.size := by omega
        have zbf := (Array.getElem?_eq_some_iff.1 BF.out).1
        replace O := Lib.hid (ownB_belowW O.out NB)
        replace OC := Lib.hid (OC.out.keep NB)
        replace BF := Lib.hid ((NB.block _ zbf).trans BF.out)
        replace B := Lib.hid (btE B.out NB)
        have zx := XC.out.lt
        have HNB := Lib.hid NB
        have hsa : (wr.alloc (.cells (Card.cells ⟨q0, q1, q2, q3, q4, q5, qp, qd⟩).toArray 48)).heap.size = wr.heap.size + 1 := by simp
        simp only [Card.cells] at XC O OC BF B zx HNB hsa
        clear NB
        go_upto_region 7 with fail
        obtain ⟨bx, hbx⟩ : ∃ bx, bx = wr.heap.size := ⟨_, rfl⟩
        generalize World.alloc wr _ = w3 at O OC BF B XC zx HNB hsa ⊢
        clear d0 d1 d2 d3 d4 d5 d6 d7
        have hs3 : wr.heap.size ≤ w3.heap.size := by omega
        have zb3 : w.heap.size < w3.heap.size := by omega
        have KC : Hid (∀ w', Below w3.heap.size w3 w' → w'.cell? ⟨w.heap.size, 0, none⟩ = some (.func (.func 64) #[] #[]) ∧ (w'.cell? ⟨g, i * 10, none⟩ = some (.int .i64 k) ∧ w'.cell? ⟨g, i * 10 + 1, none⟩ = some (.string p) ∧ w'.cell? ⟨g, i * 10 + 2, none⟩ = some (.string l) ∧ w'.cell? ⟨g, i * 10 + 3, none⟩ = some (.int .i64 m) ∧ w'.cell? ⟨g, i * 10 + 4, none⟩ = some (.int .i64 u1) ∧ w'.cell? ⟨g, i * 10 + 5, none⟩ = some (.int .i64 gi) ∧ w'.cell? ⟨g, i * 10 + 6, none⟩ = some (.int .i64 t) ∧ w'.cell? ⟨g, i * 10 + 7, none⟩ = some (.string us) ∧ w'.cell? ⟨g, i * 10 + 8, none⟩ = some (.string gr) ∧ w'.cell? ⟨g, i * 10 + 9, none⟩ = some (.string b))) := Lib.hid (fun w' hb => by
          have h9 := (hb.block _ zb3).trans BF.out
          obtain ⟨c0, c1, c2, c3, c4, c5, c6, c7, c8, c9⟩ := C10.out
          have hm : ∀ o, w'.cell? ⟨g, o, none⟩ = wr.cell? ⟨g, o, none⟩ := fun o => (hb.cell (p := ⟨g, o, none⟩) (by show g < w3.heap.size; omega)).trans (HNB.out.cell (p := ⟨g, o, none⟩) zgx)
          exact ⟨by simp [World.cell?, h9], (hm _).trans c0, (hm _).trans c1, (hm _).trans c2, (hm _).trans c3, (hm _).trans c4, (hm _).trans c5, (hm _).trans c6, (hm _).trans c7, (hm _).trans c8, (hm _).trans c9⟩)
        clear hsa
        refine wp_region_inv (by kernel_rfl) (fun w' => Below w3.heap.size w3 w') (fun x y => Below x.heap.size x y) (fun dq vq _ => match dq with | 20 => vq = .pointer (some ⟨w.heap.size, 0, none⟩) | 21 => vq = .func (.func 64) #[] #[] | 22 => vq = .slice (some ⟨g, 0, none⟩) n cap | 23 => vq = .int .i64 (i : Int) | 24 => vq = .pointer (some ⟨g, i * 10, none⟩) | 25 => vq = .agg #[.int .i64 k, .string p, .string l, .int .i64 m, .int .i64 u1, .int .i64 gi, .int .i64 t, .string us, .string gr, .string b] | 26 => vq = .bool fb | 27 => vq = .bool (!fb) | _ => True) (by kernel_rfl) ((Below.refl _ _).drew) (fun _ _ _ _ _ _ h => h) ?hops ?hend
        case hops =>
          simp only [List.forall_mem_cons]
          refine ⟨?o20, ?o21, ?o22, ?o23, ?o24, ?o25, ?o26, ?o27, fun _ h => by cases h⟩
          case o20 =>
            intro Q a w2 hC hV hI
            have e2 : a.eval (.tmp 2) = .pointer (some ⟨w.heap.size, 0, none⟩) := (hI 2 (by simp [Op.operands]) (by kernel_rfl)).trans rfl
            have f2 : a.tmps.getD 2 undef = .pointer (some ⟨w.heap.size, 0, none⟩) := e2
            have g2 : a.tmps[2]?.getD undef = .pointer (some ⟨w.heap.size, 0, none⟩) := by rw [← Array.getD_eq_getD_getElem?]; exact e2
            refine op_val (.pointer (some ⟨w.heap.size, 0, none⟩)) ?_ hC (Below.refl _ _) (by intro d hd; cases hd; rfl)
            (clear hV hI hC; go_simp <;> (first | rfl | simp | (rw [IntKind.wrap_i64]; omega)))
          case o21 =>
            intro Q a w2 hC hV hI
            have e20 : a.eval (.tmp 20) = .pointer (some ⟨w.heap.size, 0, none⟩) := hV 20 (by simp [Op.operands]) (by kernel_rfl)
            have f20 : a.tmps.getD 20 undef = .pointer (some ⟨w.heap.size, 0, none⟩) := e20
            have g20 : a.tmps[20]?.getD undef = .pointer (some ⟨w.heap.size, 0, none⟩) := by rw [← Array.getD_eq_getD_getElem?]; exact e20
            have hK := KC.out w2 hC
            refine op_val (.func (.func 64) #[] #[]) ?_ hC (Below.refl _ _) (by intro d hd; cases hd; rfl)
            (clear hV hI hC; go_simp <;> (first | rfl | simp | (rw [IntKind.wrap_i64]; omega)))
          case o22 =>
            intro Q a w2 hC hV hI
            have e1 : a.eval (.tmp 1) = .slice (some ⟨g, 0, none⟩) n cap := (hI 1 (by simp [Op.operands]) (by kernel_rfl)).trans rfl
            have f1 : a.tmps.getD 1 undef = .slice (some ⟨g, 0, none⟩) n cap := e1
            have g1 : a.tmps[1]?.getD undef = .slice (some ⟨g, 0, none⟩) n cap := by rw [← Array.getD_eq_getD_getElem?]; exact e1
            refine op_val (.slice (some ⟨g, 0, none⟩) n cap) ?_ hC (Below.refl _ _) (by intro d hd; cases hd; rfl)
            (clear hV hI hC; go_simp <;> (first | rfl | simp | (rw [IntKind.wrap_i64]; omega)))
          case o23 =>
            intro Q a w2 hC hV hI
            have e7 : a.eval (.tmp 7) = .int .i64 (i : Int) := (hI 7 (by simp [Op.operands]) (by kernel_rfl)).trans rfl
            have f7 : a.tmps.getD 7 undef = .int .i64 (i : Int) := e7
            have g7 : a.tmps[7]?.getD undef = .int .i64 (i : Int) := by rw [← Array.getD_eq_getD_getElem?]; exact e7
            refine op_val (.int .i64 (i : Int)) ?_ hC (Below.refl _ _) (by intro d hd; cases hd; rfl)
            (clear hV hI hC; go_simp <;> (first | rfl | simp | (rw [IntKind.wrap_i64]; omega)))
          case o24 =>
            intro Q a w2 hC hV hI
            have e22 : a.eval (.tmp 22) = .slice (some ⟨g, 0, none⟩) n cap := hV 22 (by simp [Op.operands]) (by kernel_rfl)
            have f22 : a.tmps.getD 22 undef = .slice (some ⟨g, 0, none⟩) n cap := e22
            have g22 : a.tmps[22]?.getD undef = .slice (some ⟨g, 0, none⟩) n cap := by rw [← Array.getD_eq_getD_getElem?]; exact e22
            have e23 : a.eval (.tmp 23) = .int .i64 (i : Int) := hV 23 (by simp [Op.operands]) (by kernel_rfl)
            have f23 : a.tmps.getD 23 undef = .int .i64 (i : Int) := e23
            have g23 : a.tmps[23]?.getD undef = .int .i64 (i : Int) := by rw [← Array.getD_eq_getD_getElem?]; exact e23
            refine op_val (.pointer (some ⟨g, i * 10, none⟩)) ?_ hC (Below.refl _ _) (by intro d hd; cases hd; rfl)
            (clear hV hI hC; go_simp <;> (first | rfl | simp | (rw [IntKind.wrap_i64]; omega)))
          case o25 =>
            intro Q a w2 hC hV hI
            have e24 : a.eval (.tmp 24) = .pointer (some ⟨g, i * 10, none⟩) := hV 24 (by simp [Op.operands]) (by kernel_rfl)
            have f24 : a.tmps.getD 24 undef = .pointer (some ⟨g, i * 10, none⟩) := e24
            have g24 : a.tmps[24]?.getD undef = .pointer (some ⟨g, i * 10, none⟩) := by rw [← Array.getD_eq_getD_getElem?]; exact e24
            have hK := KC.out w2 hC
            refine op_val (.agg #[.int .i64 k, .string p, .string l, .int .i64 m, .int .i64 u1, .int .i64 gi, .int .i64 t, .string us, .string gr, .string b]) ?_ hC (Below.refl _ _) (by intro d hd; cases hd; rfl)
            (clear hV hI hC; go_simp <;> (first | rfl | simp | (rw [IntKind.wrap_i64]; omega)))
          case o26 =>
            intro Q a w2 hC hV hI
            have e21 : a.eval (.tmp 21) = .func (.func 64) #[] #[] := hV 21 (by simp [Op.operands, Call.operands]) (by kernel_rfl)
            have f21 : a.tmps.getD 21 undef = .func (.func 64) #[] #[] := e21
            have g21 : a.tmps[21]?.getD undef = .func (.func 64) #[] #[] := by rw [← Array.getD_eq_getD_getElem?]; exact e21
            have e25 : a.eval (.tmp 25) = .agg #[.int .i64 k, .string p, .string l, .int .i64 m, .int .i64 u1, .int .i64 gi, .int .i64 t, .string us, .string gr, .string b] := hV 25 (by simp [Op.operands, Call.operands]) (by kernel_rfl)
            have f25 : a.tmps.getD 25 undef = .agg #[.int .i64 k, .string p, .string l, .int .i64 m, .int .i64 u1, .int .i64 gi, .int .i64 t, .string us, .string gr, .string b] := e25
            have g25 : a.tmps[25]?.getD undef = .agg #[.int .i64 k, .string p, .string l, .int .i64 m, .int .i64 u1, .int .i64 gi, .int .i64 t, .string us, .string gr, .string b] := by rw [← Array.getD_eq_getD_getElem?]; exact e25
            refine op_call (f := 64) (args := #[.agg #[.int .i64 k, .string p, .string l, .int .i64 m, .int .i64 u1, .int .i64 gi, .int .i64 t, .string us, .string gr, .string b]]) (R := fun v y => v = .bool fb ∧ Below w2.heap.size w2 y) ?_ ((HO.out w2).mono ?_) ?_
            · (clear hV hI hC; go_simp <;> (first | rfl | simp | (rw [IntKind.wrap_i64]; omega)))
            · rintro e y ⟨rfl, hb⟩; exact ⟨_, rfl, rfl, hb⟩
            · rintro v y ⟨rfl, hb⟩; exact ⟨hC.trans (hb.mono hC.size), hb, by intro d hd; cases hd; rfl⟩
          case o27 =>
            intro Q a w2 hC hV hI
            have e26 : a.eval (.tmp 26) = .bool fb := hV 26 (by simp [Op.operands]) (by kernel_rfl)
            have f26 : a.tmps.getD 26 undef = .bool fb := e26
            have g26 : a.tmps[26]?.getD undef = .bool fb := by rw [← Array.getD_eq_getD_getElem?]; exact e26
            refine op_val (.bool (!fb)) ?_ hC (Below.refl _ _) (by intro d hd; cases hd; rfl)
            (clear hV hI hC; go_simp <;> (first | rfl | simp | (rw [IntKind.wrap_i64]; omega)))
        case hend =>
          intro f w4 hC hall
          simp only [List.forall_mem_cons] at hall
          obtain ⟨h20, h21, h22, h23, h24, h25, h26, h27, _⟩ := hall
          replace h20 : f 20 = .pointer (some ⟨w.heap.size, 0, none⟩) := h20 20 rfl
          replace h21 : f 21 = .func (.func 64) #[] #[] := h21 21 rfl
          replace h22 : f 22 = .slice (some ⟨g, 0, none⟩) n cap := h22 22 rfl
          replace h23 : f 23 = .int .i64 (i : Int) := h23 23 rfl
          replace h24 : f 24 = .pointer (some ⟨g, i * 10, none⟩) := h24 24 rfl
          replace h25 : f 25 = .agg #[.int .i64 k, .string p, .string l, .int .i64 m, .int .i64 u1, .int .i64 gi, .int .i64 t, .string us, .string gr, .string b] := h25 25 rfl
          replace h26 : f 26 = .bool fb := h26 26 rfl
          replace h27 : f 27 = .bool (!fb) := h27 27 rfl
          simp only [putAll, Act.put, List.setIfInBounds_toArray, List.set_cons_succ, List.set_cons_zero, h20, h21, h22, h23, h24, h25, h26, h27]
          clear h20 h21 h22 h23 h24 h25 h26 h27
          clear KC HO HNB C10
          replace O := Lib.hid (ownB_belowW O.out hC)
          replace OC := Lib.hid (OC.out.keep hC)
          replace XC := Lib.hid (XC.out.below hC zx)
          replace BF := Lib.hid ((hC.block _ zb3).trans BF.out)
          replace B := Lib.hid (btE B.out hC)
          clear hC zb3 hs3 zx zgx zbf
          cases fb with
          | false =>
            have HF := Lib.hid (HB2.out rfl)
            go_wp2_with fail
            go_ret2
            exact ⟨by rw [HF.out.1, HF.out.2]; rfl, B.out⟩
          | true =>
            have HFi := Lib.hid (HFn.out rfl)
            obtain ⟨d0, d1, d2, d3, d4, d5, d6, d7⟩ := XC.out.at.zero
            have HP := Lib.hid (fun w' hb => HPut.out q0 q1 q2 q3 q4 q5 qp qd w' hb (by omega) (by omega))
            generalize cardTextv ⟨q0, q1, q2, q3, q4, q5, qp, qd⟩ = x at HP HSt hcl
            obtain ⟨T, hT⟩ : ∃ T, odcT Q i = T := ⟨_, rfl⟩
            rw [hT] at HSt hle O
            clear hT HB2 HFn HPut
            have p1 : w4.cell? ⟨w.heap.size, 1, none⟩ = some (.func (.func 65) #[] #[]) := by simp [World.cell?, BF.out]
            go_wp2_with fail
            refine (HP.out _ B.out).mono ?_
            rintro e w5 ⟨rfl, hb⟩
            replace O := Lib.hid (ownB_belowW O.out hb)
            replace OC := Lib.hid (OC.out.keep hb)
            replace BF := Lib.hid ((hb.block _ (Array.getElem?_eq_some_iff.1 BF.out).1).trans BF.out)
            replace B := Lib.hid (btE B.out hb)
            clear hb d0 d1 d2 d3 d4 d5 d6 d7 HP XC p1
            have zl : T.data.toList.length = T.size := Array.length_toList
            have hsz4 := B.out.size
            go_wp2_with (at_builtin; refine Lib.wpList_append_own_string _ rfl _ _ 82 9 rfl w.heap.size 5 i0 Tryz.underlying82 Tryz.underlying9 hi0 hz0 hz1 hz2 _ _ _ rfl O.out x rfl ?pp ?pq ?pr ?_)
            case pp => simp only [maxLen]; omega
            case pq => omega
            case pr => omega
            intro v9 w9 hown hgrow hnil
            have O9 : OwnB w9 w.heap.size v9 (T.data.toList ++ x.data.toList) := textW (by simp <;> omega) hown
            rw [show T.data.toList ++ x.data.toList = (T ++ x).data.toList from by simp] at O9
            have O10 := Lib.hid O9
            have C9 := Lib.hid (OC.out.kept hgrow (rowB_neW OC.out O.out))
            have F9 := Lib.hid ((hgrow.block _ (Array.getElem?_eq_some_iff.1 BF.out).1 (own_neW O.out BF.out (by decide))).trans BF.out)
            have B9 : Hid (Below w.heap.size w w9) := Lib.hid (B.out.grown hgrow (by omega) (fun b hb => (World.ownsRow.lt O.out b hb).1))
            clear hown hgrow hnil O9 O OC BF B
            go_wp2_with fail
            go_roundw
            case rel => exact ⟨i + 1, by go_num, by omega, HFi.out, by rw [HSt.out]; exact O10.out, C9.out, F9.out, B9.out⟩
            case measure => simp [intOf]; omega
      · obtain rfl : i = n := by omega
        have hlt2 : ¬ (i : Int) < (Q.length : Int) := by omega
        have HF := Lib.hid (HY.out HFt.out)
        have hll := HLast.out
        obtain ⟨x, hx⟩ : ∃ x, cardTextv lastC = x := ⟨_, rfl⟩
        have HP := Lib.hid (fun w' hb => HPut.out 0 0 0 0 1 0 ⟨#[84, 82, 65, 73, 76, 69, 82, 33, 33, 33]⟩ ⟨#[]⟩ w' hb (by decide) (by decide))
        rw [show (cardTextv ⟨0, 0, 0, 0, 1, 0, ⟨#[84, 82, 65, 73, 76, 69, 82, 33, 33, 33]⟩, ⟨#[]⟩⟩) = x from hx] at HP
        rw [hx] at HF hll
        have hp1 : lastC.Path.size = 10 := rfl
        have hp2 : lastC.Data.size = 0 := rfl
        have hll2 : x.size ≤ 1000 := by omega
        obtain ⟨T, hT⟩ : ∃ T, odcT Q i = T := ⟨_, rfl⟩
        rw [hT] at HF hle O
        clear hT hx hll HY hp1 hp2 HPut
        have zl : T.data.toList.length = T.size := Array.length_toList
        have p1 : wr.cell? ⟨w.heap.size, 1, none⟩ = some (.func (.func 65) #[] #[]) := by simp [World.cell?, BF.out]
        go_wp2_with fail
        refine (HP.out _ B.out).mono ?_
        rintro e w4 ⟨rfl, hb⟩
        replace O := Lib.hid (ownB_belowW O.out hb)
        replace B := Lib.hid (btE B.out hb)
        clear hb HP p1
        have hsz4 := B.out.size
        go_wp2_with (at_builtin; refine Lib.wpList_append_own_string _ rfl _ _ 82 9 rfl w.heap.size 5 i0 Tryz.underlying82 Tryz.underlying9 hi0 hz0 hz1 hz2 _ _ _ rfl O.out x rfl ?pp2 ?pq2 ?pr2 ?_)
        case pp2 => simp only [maxLen]; omega
        case pq2 => omega
        case pr2 => omega
        intro v9 w9 hown hgrow hnil
        have O9 : OwnB w9 w.heap.size v9 (T.data.toList ++ x.data.toList) := textW (by simp <;> omega) hown
        have hc := O9.conv
        rw [ba_appW] at hc
        have B9 : Hid (Below w.heap.size w w9) := Lib.hid (B.out.grown hgrow (by omega) (fun b hb => (World.ownsRow.lt O.out b hb).1))
        clear hown hgrow hnil O9 O B
        go_wp2_with fail
        go_ret2
        exact ⟨by rw [HF.out.1, HF.out.2]; rfl, B9.out⟩
end Go.Proofs.YtcnmbolmgifgfabGreatDoor

/- Contract of impl.PutOdc. -/
namespace Go.Proofs.YtcnmbolmgifgfabGreatDoor
open Go.ChangeShapes Go.WideShapes Go.ChangeAt Go.RowKit Go.Deep

set_option maxRecDepth 8000 in
theorem odcFormat_any (w : World) : Calls Tryz.prog 35 #[] w fun e w' => e = .returned (.agg #[.func (.func 64) #[] #[], .func (.func 65) #[] #[], .func (.func 66) #[] #[]]) ∧ Below w.heap.size w w' := by
  have HS := Lib.hid (run_storeVar_new (P := Tryz.prog) w 54 #[.nilFunc, .nilFunc, .nilFunc] #[.func (.func 64) #[] #[], .func (.func 65) #[] #[], .func (.func 66) #[] #[]] (by rw [Tryz.sizeCF]; rfl) rfl (by simp [Value.oneCell']))
  have hR := heap_newW w (.cells #[.func (.func 64) #[] #[], .func (.func 65) #[] #[], .func (.func 66) #[] #[]] 54 (0, 0)) w.heap.size rfl
  have B := Lib.hid ((Below.refl w.heap.size w).alloc (Nat.le_refl _) (.cells #[.func (.func 64) #[] #[], .func (.func 65) #[] #[], .func (.func 66) #[] #[]] 54))
  have HR := Lib.hid hR
  clear hR
  go_enter Tryz.func35, Tryz.ntmps35
  go_wp2_with ((with_reducible refine wpList_store_eqW rfl 54 _ _ rfl ⟨w.heap.size, 0, none⟩ ?_ ?_ HS.out ?_); rfl; rfl)
  refine bodyPost_ret (results_cell_row rfl _ _ w.heap.size _ #[.func (.func 64) #[] #[], .func (.func 65) #[] #[], .func (.func 66) #[] #[]] (0, 0) _ rfl HR.out Tryz.underlying54 rfl (by rw [Tryz.sizeCF]; rfl)) rfl ?_
  exact ⟨rfl, B.out⟩
theorem putOdc_impl (L : List Ent) (n g cap : Nat) (w : World) (hn : n = L.length) (hm : n ≤ 1048576) (hcap : n ≤ cap) (hg : g < w.heap.size) (hsm : SmallL L) (hT : Tabs w) (h1 : RowE w g L) :
    Calls Tryz.prog 14 #[.slice (some ⟨g, 0, none⟩) n cap] w fun e w' => e = .returned (.tuple #[.string (putOdcT L), .bool (putOdcB L)]) ∧ Below w.heap.size w w' := by
  have HW := Lib.hid (fun w' (hb : Below w.heap.size w w') => write_odc L n g cap w' hn hm hcap (Nat.lt_of_lt_of_le hg hb.size) hsm (hT.below hb) (h1.below hb hg))
  generalize putOdcT L = r at HW
  generalize putOdcB L = ok at HW
  clear hn hm hcap hg hsm hT h1
  go_enter Tryz.func14, Tryz.ntmps14
  go_wp2_with fail
  refine (odcFormat_any _).mono ?_
  rintro e w1 ⟨rfl, hb⟩
  have B := Lib.hid hb
  clear hb
  go_wp2_with fail
  refine (HW.out _ B.out).mono ?_
  rintro e w2 ⟨rfl, hb⟩
  have B2 := Lib.hid (btE B.out hb)
  clear hb
  go_wp2_with fail
  go_ret2
  exact ⟨rfl, B2.out⟩
end Go.Proofs.YtcnmbolmgifgfabGreatDoor

/- The law laws.FnExactPutOdc returns true. -/
namespace Go.Proofs.YtcnmbolmgifgfabGreatDoor
open Go.ChangeShapes Go.WideShapes Go.ChangeAt Go.RowKit Go.Deep

set_option maxHeartbeats 3200000 in
set_option maxRecDepth 8000 in
theorem putOdc_law (a0 : Option Addr) (len0 cap0 : Nat) (es0 : List Ent) (w : World) (hR0 : IsRowE w a0 len0 cap0 es0) (htab : Tabs w) :
    Calls Tryz.prog 4 #[.slice a0 len0 cap0] w fun e w' => e = .returned (.bool true) ∧ Below w.heap.size w w' := by
  have HS0 := Lib.hid (fun left w h h0 h1 => szEntryS_any a0 len0 cap0 es0 left w h h0 h1)
  have HR0 := Lib.hid hR0
  have HT0 := Lib.hid (fun w h hl => toEntryS_own a0 len0 cap0 es0 w h hl)
  have HL0 := Lib.hid hR0.take_len
  have HZ0 := Lib.hid (fun left r hr h0 => sz_facts (left := left) (r := r) hR0 hr h0)
  have HTab := Lib.hid htab
  clear hR0 htab
  have B : Hid (Below w.heap.size w w) := Lib.hid (Below.refl _ _)
  go_enter Tryz.func4, Tryz.ntmps4
  go_wp2_with fail
  refine (HS0.out _ _ (HR0.out.below B.out) (by omega) (by omega)).mono ?_
  rintro e v0 ⟨⟨r0, rfl, hr⟩, hb⟩
  replace B := Lib.hid (btE B.out hb)
  have hz0 := HZ0.out _ r0 hr
  clear hb hr HS0 HZ0
  by_cases hr0 : r0 < 0
  · go_wp2_with fail
    go_ret
    exact ⟨rfl, B.out⟩
  replace hz0 := hz0 (by omega)
  have hlen0 : len0 ≤ 1048576 := by omega
  have htot0 : totL (es0.take len0) ≤ 1048576 := by omega
  clear hz0
  have HS := Lib.hid (fun g w hg h1 => putOdc_spec (es0.take len0) len0 g len0 w HL0.out.symm (by omega) (Nat.le_refl _) hg (small_of_tot htot0 (by omega)) h1)
  have HI := Lib.hid (fun g w hg  ht h1 => putOdc_impl (es0.take len0) len0 g len0 w HL0.out.symm (by omega) (Nat.le_refl _) hg (small_of_tot htot0 (by omega)) ht h1)
  have HQ0 := Lib.hid (fun g g2 w hg hg2 h1 h2 => eqEntryS_any (es0.take len0) len0 g g2 len0 len0 w HL0.out.symm (by omega) hg hg2 h1 h2)
  generalize putOdcT (es0.take len0) = d at HS HI
  generalize putOdcB (es0.take len0) = d2 at HS HI
  have hEL0 := HL0.out
  generalize es0.take len0 = L0 at HT0 HS HI HQ0 hEL0
  clear htot0 HL0
  go_wp2_with fail
  refine (HT0.out _ (HR0.out.below B.out) hlen0).mono ?_
  rintro e w2 ⟨rfl, ho, hb⟩
  have Ra0 := Lib.hid ho.row.1
  have za0 := ho.row.2.1
  clear ho
  replace B := Lib.hid (btE B.out hb)
  clear hb
  generalize hgena0 : v0.heap.size = ga0 at *
  clear hgena0
  go_wp2_with fail
  refine (HS.out _ _ za0 Ra0.out).mono ?_
  rintro e w3 ⟨rfl, hb⟩
  replace B := Lib.hid (btE B.out hb)
  replace Ra0 := Lib.hid (Ra0.out.below hb za0)
  replace za0 := Nat.lt_of_lt_of_le za0 hb.size
  clear hb
  clear Ra0 za0
  go_wp2_with fail
  refine (HT0.out _ (HR0.out.below B.out) hlen0).mono ?_
  rintro e w4 ⟨rfl, ho, hb⟩
  have Rx0 := Lib.hid ho.row.1
  have zx0 := ho.row.2.1
  clear ho
  replace B := Lib.hid (btE B.out hb)
  clear hb
  generalize hgenx0 : w3.heap.size = gx0 at *
  clear hgenx0
  go_wp2_with fail
  refine (HI.out _ _ zx0 (HTab.out.below B.out) Rx0.out).mono ?_
  rintro e w5 ⟨rfl, hb⟩
  replace B := Lib.hid (btE B.out hb)
  replace Rx0 := Lib.hid (Rx0.out.below hb zx0)
  replace zx0 := Nat.lt_of_lt_of_le zx0 hb.size
  clear hb
  have qd := self_eqF d
  have qe : (d2 != d2) = false := by simp
  go_wp2_with fail
  refine (HT0.out _ (HR0.out.below B.out) hlen0).mono ?_
  rintro e w6 ⟨rfl, ho, hb⟩
  have Rb0 := Lib.hid ho.row.1
  have zb0 := ho.row.2.1
  clear ho
  replace B := Lib.hid (btE B.out hb)
  replace Rx0 := Lib.hid (Rx0.out.below hb zx0)
  replace zx0 := Nat.lt_of_lt_of_le zx0 hb.size
  clear hb
  generalize hgenb0 : w5.heap.size = gb0 at *
  clear hgenb0
  go_wp2_with fail
  refine (HQ0.out gx0 _ _ zx0 zb0 Rx0.out Rb0.out).mono ?_
  rintro e w7 ⟨rfl, hb⟩
  replace B := Lib.hid (btE B.out hb)
  replace Rx0 := Lib.hid (Rx0.out.below hb zx0)
  replace zx0 := Nat.lt_of_lt_of_le zx0 hb.size
  replace Rb0 := Lib.hid (Rb0.out.below hb zb0)
  replace zb0 := Nat.lt_of_lt_of_le zb0 hb.size
  clear hb
  clear Rb0 zb0
  go_wp2_with fail
  go_ret
  exact ⟨rfl, B.out⟩
end Go.Proofs.YtcnmbolmgifgfabGreatDoor
