/- Contracts of spec.l07Ino and spec.CardsOf. -/
import Derived.Test.YtancidbbkoeokaaGreatCardMath
import Derived.Test.YtancidbbkoeokaaGreatCardO
import Derived.Test.YtancidbbkoeokaaGreatEntO
import Derived.Test.YtancidbbkoeokaaGreatRegSl
import Derived.Deep.DeepCutAuto
import Derived.OwnWalk
namespace Go.Proofs.YtancidbbkoeokaaGreat
open Go.ChangeShapes Go.WideShapes Go.ChangeAt Go.RowKit Go.Deep

theorem find_bds (L : List Ent) (p : ByteArray) : -1 ≤ findv L p ∧ findv L p ≤ L.length := by
  rcases find_cases L p with h | ⟨a, e, h, he, _⟩
  · omega
  · have := (List.getElem?_eq_some_iff.1 he).1
    omega
set_option maxHeartbeats 1600000 in
theorem ino_spec (L : List Ent) (i : Nat) (e : Ent) (n g cap : Nat) (w : World) (he : L[i]? = some e) (hn : n = L.length) (hm : n ≤ 4194304) (hg : g < w.heap.size) (h1 : RowE w g L) :
    Calls Tryz.prog 32 #[.slice (some ⟨g, 0, none⟩) n cap, .int .i64 i] w fun e' w' => e' = .returned (.int .i64 (inov L i e)) ∧ Below w.heap.size w w' := by
  have hlt : i < n := by rw [hn]; exact (List.getElem?_eq_some_iff.1 he).1
  have hlt2 : (i : Int) < (n : Int) := by omega
  have H1 := Lib.hid (find_spec L e.link n g cap w hn hm hg h1)
  have HB := find_bds L e.link
  have HI : Hid (inov L i e = if e.kind = 3 then findv L e.link + 1 else (i : Int) + 1) := Lib.hid rfl
  obtain ⟨c0, c1, c2, c3, c4, c5, c6, c7, c8, c9⟩ := h1.ten he
  generalize inov L i e = r at HI
  generalize findv L e.link = f at H1 HI HB
  clear h1 he c1 c3 c4 c5 c6 c7 c8 c9
  obtain ⟨k, p, l, m, u, g0, t, us, gr, b⟩ := e
  by_cases hk : k = 3
  · subst hk
    have HF : Hid (r = f + 1) := Lib.hid (by rw [HI.out, if_pos rfl])
    have hb0 : f ≤ 4194304 := by omega
    have hb1 : -1 ≤ f := by omega
    clear HI HB hn
    go_enter Tryz.func32, Tryz.ntmps32
    go_wp2_with fail
    refine H1.out.mono ?_
    rintro e w1 ⟨rfl, hb⟩
    have B := Lib.hid hb
    clear hb
    go_wp2_with fail
    go_ret
    exact ⟨by rw [HF.out]; go_num, B.out⟩
  · have hk2 : (k == 3) = false := by simpa using hk
    have HF : Hid (r = (i : Int) + 1) := Lib.hid (by rw [HI.out, if_neg hk])
    clear HI HB hk hn
    go_enter Tryz.func32, Tryz.ntmps32
    go_wp2_with fail
    go_ret
    exact ⟨by rw [HF.out]; go_num, Below.refl _ _⟩
theorem row_card {w : World} {G : Nat} {ty : TypeId} {c : Card} (h : w.heap[G]? = some (.cells c.cells.toArray ty (0, 0))) : ∀ j u, (valsC [c])[j]? = some u → w.cell? ⟨G, j, none⟩ = some u := by
  intro j u hu
  rw [valsC_one] at hu
  simp only [World.cell?, h]
  simpa using hu
theorem OwnC.litC {w : World} {base : Nat} (hb : base ≤ w.heap.size) : OwnC (w.alloc (.cells #[] 44)) base (.slice (some ⟨w.heap.size, 0, none⟩) 0 0) [] := OwnC.lit hb
theorem inoB {L : List Ent} (hL : listOkv L = true) {i : Nat} {e : Ent} (he : L[i]? = some e) : 1 ≤ inov L i e ∧ inov L i e ≤ 31 := by
  have h1 := ino_bounds hL he
  have h2 := listOk_len hL
  have h3 := (List.getElem?_eq_some_iff.1 he).1
  omega
set_option maxHeartbeats 6400000 in
set_option maxRecDepth 8000 in
theorem cardsOf_spec (L : List Ent) (n g cap : Nat) (w : World) (hn : n = L.length) (hm : n ≤ 4194304) (hcap : n ≤ cap) (hg : g < w.heap.size) (hsm : SmallL L) (h1 : RowE w g L) :
    Calls Tryz.prog 16 #[.slice (some ⟨g, 0, none⟩) n cap] w fun e w' => ∃ v, e = .returned v ∧ OwnC w' w.heap.size v (cardsv L) ∧ Below w.heap.size w w' := by
  obtain ⟨i0, hi0, hz0, hz1, hz2⟩ := info_parts Tryz.infoC
  have H1 := Lib.hid h1
  have HK := Lib.hid (fun w (hg : g < w.heap.size) (h : RowE w g L) => listOk_spec L n g cap w hn hm hcap hg hsm h)
  have HI := Lib.hid (fun (i : Nat) (e : Ent) w he (hg : g < w.heap.size) (h : RowE w g L) => ino_spec L i e n g cap w he hn hm hg h)
  have HV : Hid (cardsv L = if listOkv L then cardsTo L n else []) := Lib.hid (by rw [hn]; rfl)
  have HE : Hid (listOkv L = true → ∀ i, i < n → ∃ e, L[i]? = some e ∧ (0 ≤ e.mode ∧ e.mode ≤ 4095) ∧ (e.kind = 0 ∨ e.kind = 1 ∨ e.kind = 2 ∨ e.kind = 3)) := Lib.hid (fun hL i hi => by
    obtain ⟨e, he⟩ := getE' (L := L) (i := i) (by omega)
    obtain ⟨hM, _, _, _, hk⟩ := entOk_facts (listOk_at hL he).1
    refine ⟨e, he, hM, ?_⟩
    rcases kind_facts hk with h | h | h | h
    · exact .inl h.1
    · exact .inr (.inl h.1)
    · exact .inr (.inr (.inl h.1))
    · exact .inr (.inr (.inr h.1)))
  have HN : Hid (listOkv L = true → n ≤ 30) := Lib.hid (fun h => by rw [hn]; exact listOk_len h)
  have HC : Hid (∀ i e, L[i]? = some e → cardsTo L (i + 1) = cardsTo L i ++ [⟨inov L i e, e.mode + modev e.kind, e.uid, e.gid, if e.kind = 1 then 2 else (countTo L (inov L i e) n : Nat), e.time, e.path, datav e⟩]) := Lib.hid (fun i e he => by rw [cardsTo, getD_of he, cardv, hn])
  have HL := Lib.hid (fun i => cardsTo_len L i)
  have HQ : Hid (∀ x i e, L[i]? = some e → countTo L x (i + 1) = countTo L x i + if inov L i e = x then 1 else 0) := Lib.hid (fun x i e he => by rw [countTo, inoAt_of he])
  have HCl := Lib.hid (fun x i => countTo_le L x i)
  generalize cardsv L = r at HV
  generalize listOkv L = ok at HK HV HE HN
  clear h1 hsm hn
  go_enter Tryz.func16, Tryz.ntmps16
  go_wp2_with fail
  refine (HK.out _ (by simp; omega) (H1.out.below ((Below.refl _ _).alloc (Nat.le_refl _) _) hg)).mono ?_
  rintro e w1 ⟨rfl, hb⟩
  have B0 : Below w.heap.size w (w.alloc (.cells #[] 44)) := (Below.refl _ _).alloc (Nat.le_refl _) _
  have B := Lib.hid (btE B0 hb)
  have O := Lib.hid ((OwnC.lit (w := w) (base := w.heap.size) (Nat.le_refl _)).keep hb)
  clear hb B0
  cases ok with
  | false =>
    have HF : Hid (r = []) := Lib.hid (by rw [HV.out]; rfl)
    go_wp2_with fail
    go_ret
    exact ⟨_, rfl, by rw [HF.out]; exact O.out, B.out⟩
  | true =>
    have HF : Hid (r = cardsTo L n) := Lib.hid (by rw [HV.out]; rfl)
    have hn30 := HN.out rfl
    have HE2 := Lib.hid (HE.out rfl)
    clear HV HE HN HK
    go_wp2_with fail
    go_loopw [3, 4, 5, 6, 7, 8, 9] (fun v u _ _ _ _ _ wr => ∃ i : Nat, u = .int .i64 i ∧ i ≤ n ∧ OwnC wr w.heap.size v (cardsTo L i) ∧ Below w.heap.size w wr) (fun _ u _ _ _ _ _ _ => n - (intOf u).toNat)
    case atStart => exact ⟨0, rfl, Nat.zero_le _, O.out, B.out⟩
    case round =>
      obtain ⟨i, rfl, hi, ho, hb⟩ := hrel
      obtain ⟨wo, hwo⟩ : ∃ wo, wo = wr := ⟨_, rfl⟩
      subst hwo
      clear O B
      have O := Lib.hid ho
      have B := Lib.hid hb
      clear ho hb
      by_cases hlt : i < n
      · have hlt2 : (i : Int) < (n : Int) := by omega
        obtain ⟨e, he, hmd, hkd⟩ := HE2.out i hlt
        have HI2 := Lib.hid (fun w hg h => HI.out i e w he hg h)
        have HC2 := Lib.hid (HC.out i e he)
        have HL2 := HL.out i
        have R := Lib.hid (H1.out.below B.out hg)
        have hsz := B.out.size
        have zg : g < wo.heap.size := by omega
        obtain ⟨c0, c1, c2, c3, c4, c5, c6, c7, c8, c9⟩ := R.out.ten he
        clear he R HC
        obtain ⟨go, co, rfl, _, zo, hbo, _⟩ := O.out.open
        generalize inov L i e = x at HI2 HC2
        obtain ⟨D, hD⟩ : ∃ D, cardsTo L i = D := ⟨_, rfl⟩
        rw [hD] at HC2 O HL2 ⊢
        have hDl : D.length ≤ 30 := by omega
        clear hD HL2
        obtain ⟨k, p, l, m, u1, gi, t, us, gr, b⟩ := e
        have NB : Below wo.heap.size wo (wo.alloc (.cells (Ent.cells ⟨k, p, l, m, u1, gi, t, us, gr, b⟩).toArray 41)) := (Below.refl _ _).alloc (Nat.le_refl _) _
        have XE := Lib.hid (EntO.new wo ⟨k, p, l, m, u1, gi, t, us, gr, b⟩)
        have O1 := Lib.hid (O.out.keep NB)
        have B1 := Lib.hid (btE B.out NB)
        simp only [Ent.cells] at XE O1 B1
        simp only at hmd hkd HC2
        clear NB
        go_wp2_with fail
        go_loopw [6, 7] (fun v u w2 => ∃ j : Nat, u = .int .i64 j ∧ j ≤ n ∧ v = .int .i64 ((countTo L x j : Nat) : Int) ∧ OwnC w2 w.heap.size (.slice (some ⟨go, 0, none⟩) D.length co) D ∧ EntO w2 wo.heap.size ⟨k, p, l, m, u1, gi, t, us, gr, b⟩ ∧ Below w.heap.size w w2) (fun _ u _ => n - (intOf u).toNat)
        case atStart => exact ⟨0, rfl, Nat.zero_le _, rfl, O1.out, XE.out, B1.out⟩
        case round =>
          obtain ⟨j, rfl, hj, rfl, ho, hx, hb⟩ := hrel
          clear O1 XE B1 O B
          have O := Lib.hid ho
          have X := Lib.hid hx
          have B := Lib.hid hb
          clear ho hx hb
          have R := Lib.hid (H1.out.below B.out hg)
          have hsz2 := B.out.size
          have zX := X.out.lt
          by_cases hltj : j < n
          · have hltj2 : (j : Int) < (n : Int) := by omega
            obtain ⟨e2, he2, _, _⟩ := HE2.out j hltj
            have HJ := Lib.hid (fun w hg h => HI.out j e2 w he2 hg h)
            have HQ2 := Lib.hid (HQ.out x j e2 he2)
            have hcb := HCl.out x j
            generalize inov L j e2 = y at HJ HQ2
            obtain ⟨cj, hcj⟩ : ∃ c, countTo L x j = c := ⟨_, rfl⟩
            rw [hcj] at HQ2 hcb ⊢
            clear hcj he2
            go_wp2_with fail
            refine (HJ.out _ (by omega) R.out).mono ?_
            rintro e w3 ⟨rfl, hb⟩
            replace O := Lib.hid (O.out.keep hb)
            replace X := Lib.hid (X.out.below hb zX)
            replace B := Lib.hid (btE B.out hb)
            replace R := Lib.hid (R.out.below hb (by omega))
            replace zX := Nat.lt_of_lt_of_le zX hb.size
            have hsz3 := B.out.size
            clear hb
            go_wp2_with fail
            refine (HI2.out _ (by omega) R.out).mono ?_
            rintro e w4 ⟨rfl, hb⟩
            replace O := Lib.hid (O.out.keep hb)
            replace X := Lib.hid (X.out.below hb zX)
            replace B := Lib.hid (btE B.out hb)
            clear hb
            by_cases hyx : y = x
            · have HQ3 : Hid (countTo L x (j + 1) = cj + 1) := Lib.hid (by rw [HQ2.out, if_pos hyx])
              have q : (y == x) = true := by simpa using hyx
              clear hyx HQ2
              go_wp2_with fail
              go_roundw
              case rel => exact ⟨j + 1, by go_num, by omega, by rw [HQ3.out]; go_num, O.out, X.out, B.out⟩
              case measure => simp [intOf]; omega
            · have HQ3 : Hid (countTo L x (j + 1) = cj) := Lib.hid (by rw [HQ2.out, if_neg hyx]; rfl)
              have q : (y == x) = false := by simpa using hyx
              clear hyx HQ2
              go_wp2_with fail
              go_roundw
              case rel => exact ⟨j + 1, by go_num, by omega, by rw [HQ3.out], O.out, X.out, B.out⟩
              case measure => simp [intOf]; omega
          · obtain rfl : j = n := by omega
            have hltj2 : ¬ (j : Int) < (j : Int) := by omega
            have hcn := HCl.out x j
            obtain ⟨cn, hcn2⟩ : ∃ c, countTo L x j = c := ⟨_, rfl⟩
            rw [hcn2] at HC2 hcn ⊢
            clear hcn2 HQ HI HCl
            obtain ⟨d0, d1, d2, d3, d4, d5, d6, d7, d8, d9⟩ := X.out.at.zero
            rcases hkd with h | h | h | h
            · subst h
              have HC3 : Hid (cardsTo L (i + 1) = D ++ [⟨x, m + 32768, u1, gi, (cn : Int), t, p, b⟩]) := Lib.hid (by rw [HC2.out]; rfl)
              clear HC2
              go_upto_region 20 with fail
              generalize hw5 : World.alloc wr _ = w5
              have NB : Below wr.heap.size wr w5 := by rw [← hw5]; exact (Below.refl _ _).alloc (Nat.le_refl _) _
              clear hw5 d0 d1 d2 d3 d4 d5 d6 d7 d8 d9
              replace O := Lib.hid (O.out.keep NB)
              replace X := Lib.hid (X.out.below NB zX)
              replace R := Lib.hid (R.out.below NB (by omega))
              replace B := Lib.hid (btE B.out NB)
              have hsz5 := B.out.size
              have zX5 := X.out.lt
              have zg5 : g < w5.heap.size := by omega
              clear NB
              have KC : Hid (∀ w', Below w5.heap.size w5 w' → w'.cell? ⟨wo.heap.size, 1, none⟩ = some (.string p) ∧ w'.cell? ⟨wo.heap.size, 3, none⟩ = some (.int .i64 m) ∧ w'.cell? ⟨wo.heap.size, 4, none⟩ = some (.int .i64 u1) ∧ w'.cell? ⟨wo.heap.size, 5, none⟩ = some (.int .i64 gi) ∧ w'.cell? ⟨wo.heap.size, 6, none⟩ = some (.int .i64 t)) := Lib.hid (fun w' hb => by
                obtain ⟨d0, d1, d2, d3, d4, d5, d6, d7, d8, d9⟩ := (X.out.below hb zX5).at.zero
                exact ⟨d1, d3, d4, d5, d6⟩)
              have HI3 := Lib.hid (fun w' (hb : Below w5.heap.size w5 w') => HI2.out w' (Nat.lt_of_lt_of_le zg5 hb.size) (R.out.below hb zg5))
              clear HI2
              refine wp_region_cut 20 (by kernel_rfl) (fun w' => Below w5.heap.size w5 w') (fun x y => Below x.heap.size x y) (vSlG 74 44 w5.heap.size #[.int .i64 x, .int .i64 (m + 32768), .int .i64 u1, .int .i64 gi, .int .i64 (cn : Int), .int .i64 t, .string p, .string b] (fun d v => match d with | 55 => v = .slice (some ⟨go, 0, none⟩) D.length co | 56 => v = .slice (some ⟨g, 0, none⟩) j cap | 57 => v = .int .i64 (i : Int) | 58 => v = .int .i64 x | 59 => v = .pointer (some ⟨wo.heap.size, 3, none⟩) | 60 => v = .int .i64 m | 61 => v = .int .i64 32768 | 62 => v = .int .i64 (m + 32768) | 63 => v = .pointer (some ⟨wo.heap.size, 4, none⟩) | 64 => v = .int .i64 u1 | 65 => v = .pointer (some ⟨wo.heap.size, 5, none⟩) | 66 => v = .int .i64 gi | 67 => v = .int .i64 (cn : Int) | 68 => v = .pointer (some ⟨wo.heap.size, 6, none⟩) | 69 => v = .int .i64 t | 70 => v = .pointer (some ⟨wo.heap.size, 1, none⟩) | 71 => v = .string p | 72 => v = .string b | 73 => v = .agg #[.int .i64 x, .int .i64 (m + 32768), .int .i64 u1, .int .i64 gi, .int .i64 (cn : Int), .int .i64 t, .string p, .string b] | _ => True)) (by kernel_rfl) (by kernel_rfl) ((Below.refl _ _).drew) (vSlG_keep _ _ _ _ _) (by simp) ?hops ?hend
              case hops =>
                simp only [List.take_succ_cons, List.take_zero, List.forall_mem_cons]
                refine ⟨?o55, ?o56, ?o57, ?o58, ?o59, ?o60, ?o61, ?o62, ?o63, ?o64, ?o65, ?o66, ?o67, ?o68, ?o69, ?o70, ?o71, ?o72, ?o73, ?o74, fun _ h => by cases h⟩
                case o55 =>
                  intro Q a w2 hC hV hI
                  have e3 : a.eval (.tmp 3) = .slice (some ⟨go, 0, none⟩) D.length co := (hI 3 (by simp [Op.operands]) (by kernel_rfl)).trans rfl
                  have f3 : a.tmps.getD 3 undef = .slice (some ⟨go, 0, none⟩) D.length co := e3
                  have g3 : a.tmps[3]?.getD undef = .slice (some ⟨go, 0, none⟩) D.length co := by rw [← Array.getD_eq_getD_getElem?]; exact e3
                  refine op_val (.slice (some ⟨go, 0, none⟩) D.length co) ?_ hC (Below.refl _ _) (by intro d hd; cases hd; exact rfl)
                  (clear hV hI hC; go_simp <;> (first | rfl | simp | (rw [IntKind.wrap_i64]; omega)))
                case o56 =>
                  intro Q a w2 hC hV hI
                  have e0 : a.eval (.tmp 0) = .slice (some ⟨g, 0, none⟩) j cap := (hI 0 (by simp [Op.operands]) (by kernel_rfl)).trans rfl
                  have f0 : a.tmps.getD 0 undef = .slice (some ⟨g, 0, none⟩) j cap := e0
                  have g0 : a.tmps[0]?.getD undef = .slice (some ⟨g, 0, none⟩) j cap := by rw [← Array.getD_eq_getD_getElem?]; exact e0
                  refine op_val (.slice (some ⟨g, 0, none⟩) j cap) ?_ hC (Below.refl _ _) (by intro d hd; cases hd; exact rfl)
                  (clear hV hI hC; go_simp <;> (first | rfl | simp | (rw [IntKind.wrap_i64]; omega)))
                case o57 =>
                  intro Q a w2 hC hV hI
                  have e4 : a.eval (.tmp 4) = .int .i64 (i : Int) := (hI 4 (by simp [Op.operands]) (by kernel_rfl)).trans rfl
                  have f4 : a.tmps.getD 4 undef = .int .i64 (i : Int) := e4
                  have g4 : a.tmps[4]?.getD undef = .int .i64 (i : Int) := by rw [← Array.getD_eq_getD_getElem?]; exact e4
                  refine op_val (.int .i64 (i : Int)) ?_ hC (Below.refl _ _) (by intro d hd; cases hd; exact rfl)
                  (clear hV hI hC; go_simp <;> (first | rfl | simp | (rw [IntKind.wrap_i64]; omega)))
                case o58 =>
                  intro Q a w2 hC hV hI
                  have e56 : a.eval (.tmp 56) = .slice (some ⟨g, 0, none⟩) j cap := hV 56 (by simp [Op.operands, Call.operands]) (by kernel_rfl)
                  have f56 : a.tmps.getD 56 undef = .slice (some ⟨g, 0, none⟩) j cap := e56
                  have g56 : a.tmps[56]?.getD undef = .slice (some ⟨g, 0, none⟩) j cap := by rw [← Array.getD_eq_getD_getElem?]; exact e56
                  have e57 : a.eval (.tmp 57) = .int .i64 (i : Int) := hV 57 (by simp [Op.operands, Call.operands]) (by kernel_rfl)
                  have f57 : a.tmps.getD 57 undef = .int .i64 (i : Int) := e57
                  have g57 : a.tmps[57]?.getD undef = .int .i64 (i : Int) := by rw [← Array.getD_eq_getD_getElem?]; exact e57
                  refine op_call (f := 32) (args := #[.slice (some ⟨g, 0, none⟩) j cap, .int .i64 (i : Int)]) (R := fun v y => v = .int .i64 x ∧ Below w2.heap.size w2 y) ?_ ((HI3.out w2 hC).mono ?_) ?_
                  · (clear hV hI hC; go_simp <;> (first | rfl | simp | (rw [IntKind.wrap_i64]; omega)))
                  · rintro e y ⟨rfl, hb⟩; exact ⟨_, rfl, rfl, hb⟩
                  · rintro v y ⟨rfl, hb⟩; exact ⟨hC.trans (hb.mono hC.size), hb, by intro d hd; cases hd; exact rfl⟩
                case o59 =>
                  intro Q a w2 hC hV hI
                  have e5 : a.eval (.tmp 5) = .pointer (some ⟨wo.heap.size, 0, none⟩) := (hI 5 (by simp [Op.operands]) (by kernel_rfl)).trans rfl
                  have f5 : a.tmps.getD 5 undef = .pointer (some ⟨wo.heap.size, 0, none⟩) := e5
                  have g5 : a.tmps[5]?.getD undef = .pointer (some ⟨wo.heap.size, 0, none⟩) := by rw [← Array.getD_eq_getD_getElem?]; exact e5
                  refine op_val (.pointer (some ⟨wo.heap.size, 3, none⟩)) ?_ hC (Below.refl _ _) (by intro d hd; cases hd; exact rfl)
                  (clear hV hI hC; go_simp <;> (first | rfl | simp | (rw [IntKind.wrap_i64]; omega)))
                case o60 =>
                  intro Q a w2 hC hV hI
                  have e59 : a.eval (.tmp 59) = .pointer (some ⟨wo.heap.size, 3, none⟩) := hV 59 (by simp [Op.operands]) (by kernel_rfl)
                  have f59 : a.tmps.getD 59 undef = .pointer (some ⟨wo.heap.size, 3, none⟩) := e59
                  have g59 : a.tmps[59]?.getD undef = .pointer (some ⟨wo.heap.size, 3, none⟩) := by rw [← Array.getD_eq_getD_getElem?]; exact e59
                  have hK := KC.out w2 hC
                  refine op_val (.int .i64 m) ?_ hC (Below.refl _ _) (by intro d hd; cases hd; exact rfl)
                  (clear hV hI hC; go_simp <;> (first | rfl | simp | (rw [IntKind.wrap_i64]; omega)))
                case o61 =>
                  intro Q a w2 hC hV hI
                  have e9 : a.eval (.tmp 9) = .int .i64 32768 := (hI 9 (by simp [Op.operands]) (by kernel_rfl)).trans rfl
                  have f9 : a.tmps.getD 9 undef = .int .i64 32768 := e9
                  have g9 : a.tmps[9]?.getD undef = .int .i64 32768 := by rw [← Array.getD_eq_getD_getElem?]; exact e9
                  refine op_val (.int .i64 32768) ?_ hC (Below.refl _ _) (by intro d hd; cases hd; exact rfl)
                  (clear hV hI hC; go_simp <;> (first | rfl | simp | (rw [IntKind.wrap_i64]; omega)))
                case o62 =>
                  intro Q a w2 hC hV hI
                  have e60 : a.eval (.tmp 60) = .int .i64 m := hV 60 (by simp [Op.operands]) (by kernel_rfl)
                  have f60 : a.tmps.getD 60 undef = .int .i64 m := e60
                  have g60 : a.tmps[60]?.getD undef = .int .i64 m := by rw [← Array.getD_eq_getD_getElem?]; exact e60
                  have e61 : a.eval (.tmp 61) = .int .i64 32768 := hV 61 (by simp [Op.operands]) (by kernel_rfl)
                  have f61 : a.tmps.getD 61 undef = .int .i64 32768 := e61
                  have g61 : a.tmps[61]?.getD undef = .int .i64 32768 := by rw [← Array.getD_eq_getD_getElem?]; exact e61
                  have q9 := add_i64 (P := Tryz.prog) (a := m) (b := 32768) w2 3 (by omega) (by omega)
                  refine op_val (.int .i64 (m + 32768)) ?_ hC (Below.refl _ _) (by intro d hd; cases hd; exact rfl)
                  (clear hV hI hC; go_simp <;> (first | rfl | simp | (rw [IntKind.wrap_i64]; omega)))
                case o63 =>
                  intro Q a w2 hC hV hI
                  have e5 : a.eval (.tmp 5) = .pointer (some ⟨wo.heap.size, 0, none⟩) := (hI 5 (by simp [Op.operands]) (by kernel_rfl)).trans rfl
                  have f5 : a.tmps.getD 5 undef = .pointer (some ⟨wo.heap.size, 0, none⟩) := e5
                  have g5 : a.tmps[5]?.getD undef = .pointer (some ⟨wo.heap.size, 0, none⟩) := by rw [← Array.getD_eq_getD_getElem?]; exact e5
                  refine op_val (.pointer (some ⟨wo.heap.size, 4, none⟩)) ?_ hC (Below.refl _ _) (by intro d hd; cases hd; exact rfl)
                  (clear hV hI hC; go_simp <;> (first | rfl | simp | (rw [IntKind.wrap_i64]; omega)))
                case o64 =>
                  intro Q a w2 hC hV hI
                  have e63 : a.eval (.tmp 63) = .pointer (some ⟨wo.heap.size, 4, none⟩) := hV 63 (by simp [Op.operands]) (by kernel_rfl)
                  have f63 : a.tmps.getD 63 undef = .pointer (some ⟨wo.heap.size, 4, none⟩) := e63
                  have g63 : a.tmps[63]?.getD undef = .pointer (some ⟨wo.heap.size, 4, none⟩) := by rw [← Array.getD_eq_getD_getElem?]; exact e63
                  have hK := KC.out w2 hC
                  refine op_val (.int .i64 u1) ?_ hC (Below.refl _ _) (by intro d hd; cases hd; exact rfl)
                  (clear hV hI hC; go_simp <;> (first | rfl | simp | (rw [IntKind.wrap_i64]; omega)))
                case o65 =>
                  intro Q a w2 hC hV hI
                  have e5 : a.eval (.tmp 5) = .pointer (some ⟨wo.heap.size, 0, none⟩) := (hI 5 (by simp [Op.operands]) (by kernel_rfl)).trans rfl
                  have f5 : a.tmps.getD 5 undef = .pointer (some ⟨wo.heap.size, 0, none⟩) := e5
                  have g5 : a.tmps[5]?.getD undef = .pointer (some ⟨wo.heap.size, 0, none⟩) := by rw [← Array.getD_eq_getD_getElem?]; exact e5
                  refine op_val (.pointer (some ⟨wo.heap.size, 5, none⟩)) ?_ hC (Below.refl _ _) (by intro d hd; cases hd; exact rfl)
                  (clear hV hI hC; go_simp <;> (first | rfl | simp | (rw [IntKind.wrap_i64]; omega)))
                case o66 =>
                  intro Q a w2 hC hV hI
                  have e65 : a.eval (.tmp 65) = .pointer (some ⟨wo.heap.size, 5, none⟩) := hV 65 (by simp [Op.operands]) (by kernel_rfl)
                  have f65 : a.tmps.getD 65 undef = .pointer (some ⟨wo.heap.size, 5, none⟩) := e65
                  have g65 : a.tmps[65]?.getD undef = .pointer (some ⟨wo.heap.size, 5, none⟩) := by rw [← Array.getD_eq_getD_getElem?]; exact e65
                  have hK := KC.out w2 hC
                  refine op_val (.int .i64 gi) ?_ hC (Below.refl _ _) (by intro d hd; cases hd; exact rfl)
                  (clear hV hI hC; go_simp <;> (first | rfl | simp | (rw [IntKind.wrap_i64]; omega)))
                case o67 =>
                  intro Q a w2 hC hV hI
                  have e6 : a.eval (.tmp 6) = .int .i64 (cn : Int) := (hI 6 (by simp [Op.operands]) (by kernel_rfl)).trans rfl
                  have f6 : a.tmps.getD 6 undef = .int .i64 (cn : Int) := e6
                  have g6 : a.tmps[6]?.getD undef = .int .i64 (cn : Int) := by rw [← Array.getD_eq_getD_getElem?]; exact e6
                  refine op_val (.int .i64 (cn : Int)) ?_ hC (Below.refl _ _) (by intro d hd; cases hd; exact rfl)
                  (clear hV hI hC; go_simp <;> (first | rfl | simp | (rw [IntKind.wrap_i64]; omega)))
                case o68 =>
                  intro Q a w2 hC hV hI
                  have e5 : a.eval (.tmp 5) = .pointer (some ⟨wo.heap.size, 0, none⟩) := (hI 5 (by simp [Op.operands]) (by kernel_rfl)).trans rfl
                  have f5 : a.tmps.getD 5 undef = .pointer (some ⟨wo.heap.size, 0, none⟩) := e5
                  have g5 : a.tmps[5]?.getD undef = .pointer (some ⟨wo.heap.size, 0, none⟩) := by rw [← Array.getD_eq_getD_getElem?]; exact e5
                  refine op_val (.pointer (some ⟨wo.heap.size, 6, none⟩)) ?_ hC (Below.refl _ _) (by intro d hd; cases hd; exact rfl)
                  (clear hV hI hC; go_simp <;> (first | rfl | simp | (rw [IntKind.wrap_i64]; omega)))
                case o69 =>
                  intro Q a w2 hC hV hI
                  have e68 : a.eval (.tmp 68) = .pointer (some ⟨wo.heap.size, 6, none⟩) := hV 68 (by simp [Op.operands]) (by kernel_rfl)
                  have f68 : a.tmps.getD 68 undef = .pointer (some ⟨wo.heap.size, 6, none⟩) := e68
                  have g68 : a.tmps[68]?.getD undef = .pointer (some ⟨wo.heap.size, 6, none⟩) := by rw [← Array.getD_eq_getD_getElem?]; exact e68
                  have hK := KC.out w2 hC
                  refine op_val (.int .i64 t) ?_ hC (Below.refl _ _) (by intro d hd; cases hd; exact rfl)
                  (clear hV hI hC; go_simp <;> (first | rfl | simp | (rw [IntKind.wrap_i64]; omega)))
                case o70 =>
                  intro Q a w2 hC hV hI
                  have e5 : a.eval (.tmp 5) = .pointer (some ⟨wo.heap.size, 0, none⟩) := (hI 5 (by simp [Op.operands]) (by kernel_rfl)).trans rfl
                  have f5 : a.tmps.getD 5 undef = .pointer (some ⟨wo.heap.size, 0, none⟩) := e5
                  have g5 : a.tmps[5]?.getD undef = .pointer (some ⟨wo.heap.size, 0, none⟩) := by rw [← Array.getD_eq_getD_getElem?]; exact e5
                  refine op_val (.pointer (some ⟨wo.heap.size, 1, none⟩)) ?_ hC (Below.refl _ _) (by intro d hd; cases hd; exact rfl)
                  (clear hV hI hC; go_simp <;> (first | rfl | simp | (rw [IntKind.wrap_i64]; omega)))
                case o71 =>
                  intro Q a w2 hC hV hI
                  have e70 : a.eval (.tmp 70) = .pointer (some ⟨wo.heap.size, 1, none⟩) := hV 70 (by simp [Op.operands]) (by kernel_rfl)
                  have f70 : a.tmps.getD 70 undef = .pointer (some ⟨wo.heap.size, 1, none⟩) := e70
                  have g70 : a.tmps[70]?.getD undef = .pointer (some ⟨wo.heap.size, 1, none⟩) := by rw [← Array.getD_eq_getD_getElem?]; exact e70
                  have hK := KC.out w2 hC
                  refine op_val (.string p) ?_ hC (Below.refl _ _) (by intro d hd; cases hd; exact rfl)
                  (clear hV hI hC; go_simp <;> (first | rfl | simp | (rw [IntKind.wrap_i64]; omega)))
                case o72 =>
                  intro Q a w2 hC hV hI
                  have e8 : a.eval (.tmp 8) = .string b := (hI 8 (by simp [Op.operands]) (by kernel_rfl)).trans rfl
                  have f8 : a.tmps.getD 8 undef = .string b := e8
                  have g8 : a.tmps[8]?.getD undef = .string b := by rw [← Array.getD_eq_getD_getElem?]; exact e8
                  refine op_val (.string b) ?_ hC (Below.refl _ _) (by intro d hd; cases hd; exact rfl)
                  (clear hV hI hC; go_simp <;> (first | rfl | simp | (rw [IntKind.wrap_i64]; omega)))
                case o73 =>
                  intro Q a w2 hC hV hI
                  have e58 : a.eval (.tmp 58) = .int .i64 x := hV 58 (by simp [Op.operands]) (by kernel_rfl)
                  have f58 : a.tmps.getD 58 undef = .int .i64 x := e58
                  have g58 : a.tmps[58]?.getD undef = .int .i64 x := by rw [← Array.getD_eq_getD_getElem?]; exact e58
                  have e62 : a.eval (.tmp 62) = .int .i64 (m + 32768) := hV 62 (by simp [Op.operands]) (by kernel_rfl)
                  have f62 : a.tmps.getD 62 undef = .int .i64 (m + 32768) := e62
                  have g62 : a.tmps[62]?.getD undef = .int .i64 (m + 32768) := by rw [← Array.getD_eq_getD_getElem?]; exact e62
                  have e64 : a.eval (.tmp 64) = .int .i64 u1 := hV 64 (by simp [Op.operands]) (by kernel_rfl)
                  have f64 : a.tmps.getD 64 undef = .int .i64 u1 := e64
                  have g64 : a.tmps[64]?.getD undef = .int .i64 u1 := by rw [← Array.getD_eq_getD_getElem?]; exact e64
                  have e66 : a.eval (.tmp 66) = .int .i64 gi := hV 66 (by simp [Op.operands]) (by kernel_rfl)
                  have f66 : a.tmps.getD 66 undef = .int .i64 gi := e66
                  have g66 : a.tmps[66]?.getD undef = .int .i64 gi := by rw [← Array.getD_eq_getD_getElem?]; exact e66
                  have e67 : a.eval (.tmp 67) = .int .i64 (cn : Int) := hV 67 (by simp [Op.operands]) (by kernel_rfl)
                  have f67 : a.tmps.getD 67 undef = .int .i64 (cn : Int) := e67
                  have g67 : a.tmps[67]?.getD undef = .int .i64 (cn : Int) := by rw [← Array.getD_eq_getD_getElem?]; exact e67
                  have e69 : a.eval (.tmp 69) = .int .i64 t := hV 69 (by simp [Op.operands]) (by kernel_rfl)
                  have f69 : a.tmps.getD 69 undef = .int .i64 t := e69
                  have g69 : a.tmps[69]?.getD undef = .int .i64 t := by rw [← Array.getD_eq_getD_getElem?]; exact e69
                  have e71 : a.eval (.tmp 71) = .string p := hV 71 (by simp [Op.operands]) (by kernel_rfl)
                  have f71 : a.tmps.getD 71 undef = .string p := e71
                  have g71 : a.tmps[71]?.getD undef = .string p := by rw [← Array.getD_eq_getD_getElem?]; exact e71
                  have e72 : a.eval (.tmp 72) = .string b := hV 72 (by simp [Op.operands]) (by kernel_rfl)
                  have f72 : a.tmps.getD 72 undef = .string b := e72
                  have g72 : a.tmps[72]?.getD undef = .string b := by rw [← Array.getD_eq_getD_getElem?]; exact e72
                  refine op_val (.agg #[.int .i64 x, .int .i64 (m + 32768), .int .i64 u1, .int .i64 gi, .int .i64 (cn : Int), .int .i64 t, .string p, .string b]) ?_ hC (Below.refl _ _) (by intro d hd; cases hd; exact rfl)
                  (clear hV hI hC; go_simp <;> (first | rfl | simp | (rw [IntKind.wrap_i64]; omega)))
                case o74 =>
                  intro Q a w2 hC hV hI
                  have e73 : a.eval (.tmp 73) = .agg #[.int .i64 x, .int .i64 (m + 32768), .int .i64 u1, .int .i64 gi, .int .i64 (cn : Int), .int .i64 t, .string p, .string b] := hV 73 (by simp [Op.operands]) (by kernel_rfl)
                  have f73 : a.tmps.getD 73 undef = .agg #[.int .i64 x, .int .i64 (m + 32768), .int .i64 u1, .int .i64 gi, .int .i64 (cn : Int), .int .i64 t, .string p, .string b] := e73
                  have g73 : a.tmps[73]?.getD undef = .agg #[.int .i64 x, .int .i64 (m + 32768), .int .i64 u1, .int .i64 gi, .int .i64 (cn : Int), .int .i64 t, .string p, .string b] := by rw [← Array.getD_eq_getD_getElem?]; exact e73
                  refine op_val (.slice (some ⟨w2.heap.size, 0, none⟩) 1 1) (w' := w2.alloc (.cells #[.int .i64 x, .int .i64 (m + 32768), .int .i64 u1, .int .i64 gi, .int .i64 (cn : Int), .int .i64 t, .string p, .string b] 44)) ?_ (hC.alloc hC.size _) ((Below.refl _ _).alloc (Nat.le_refl _) _) ?_
                  · (clear hV hI hC; go_simp <;> (first | rfl | simp | (rw [IntKind.wrap_i64]; omega)))
                  · intro d hd; cases hd; exact ⟨w2.heap.size, rfl, hC.size, heap_lastG _ _⟩
              case hend =>
                intro f w6 hC hall
                simp only [List.take_succ_cons, List.take_zero, List.drop_succ_cons, List.drop_zero] at hall ⊢
                simp only [List.forall_mem_cons] at hall
                obtain ⟨h55, h56, h57, h58, h59, h60, h61, h62, h63, h64, h65, h66, h67, h68, h69, h70, h71, h72, h73, h74, _⟩ := hall
                replace h55 : f 55 = .slice (some ⟨go, 0, none⟩) D.length co := h55 55 rfl
                replace h56 : f 56 = .slice (some ⟨g, 0, none⟩) j cap := h56 56 rfl
                replace h57 : f 57 = .int .i64 (i : Int) := h57 57 rfl
                replace h58 : f 58 = .int .i64 x := h58 58 rfl
                replace h59 : f 59 = .pointer (some ⟨wo.heap.size, 3, none⟩) := h59 59 rfl
                replace h60 : f 60 = .int .i64 m := h60 60 rfl
                replace h61 : f 61 = .int .i64 32768 := h61 61 rfl
                replace h62 : f 62 = .int .i64 (m + 32768) := h62 62 rfl
                replace h63 : f 63 = .pointer (some ⟨wo.heap.size, 4, none⟩) := h63 63 rfl
                replace h64 : f 64 = .int .i64 u1 := h64 64 rfl
                replace h65 : f 65 = .pointer (some ⟨wo.heap.size, 5, none⟩) := h65 65 rfl
                replace h66 : f 66 = .int .i64 gi := h66 66 rfl
                replace h67 : f 67 = .int .i64 (cn : Int) := h67 67 rfl
                replace h68 : f 68 = .pointer (some ⟨wo.heap.size, 6, none⟩) := h68 68 rfl
                replace h69 : f 69 = .int .i64 t := h69 69 rfl
                replace h70 : f 70 = .pointer (some ⟨wo.heap.size, 1, none⟩) := h70 70 rfl
                replace h71 : f 71 = .string p := h71 71 rfl
                replace h72 : f 72 = .string b := h72 72 rfl
                replace h73 : f 73 = .agg #[.int .i64 x, .int .i64 (m + 32768), .int .i64 u1, .int .i64 gi, .int .i64 (cn : Int), .int .i64 t, .string p, .string b] := h73 73 rfl
                obtain ⟨G74, hG74, hGB74, hGO74⟩ : ∃ G, f 74 = .slice (some ⟨G, 0, none⟩) 1 1 ∧ w5.heap.size ≤ G ∧ w6.heap[G]? = some (.cells #[.int .i64 x, .int .i64 (m + 32768), .int .i64 u1, .int .i64 gi, .int .i64 (cn : Int), .int .i64 t, .string p, .string b] 44 (0, 0)) := h74 74 rfl
                simp only [putAll, Act.put, List.setIfInBounds_toArray, List.set_cons_succ, List.set_cons_zero, h55, h56, h57, h58, h59, h60, h61, h62, h63, h64, h65, h66, h67, h68, h69, h70, h71, h72, h73, hG74]
                clear h55 h56 h57 h58 h59 h60 h61 h62 h63 h64 h65 h66 h67 h68 h69 h70 h71 h72 h73 hG74 h74
                replace O := Lib.hid (O.out.keep hC)
                replace B := Lib.hid (btE B.out hC)
                have OW := Lib.hid O.out.1
                have hsz6 := B.out.size
                go_wp2_with (at_builtin; refine wpList_append_own _ rfl _ _ 38 rfl w.heap.size 44 i0 (.agg #[.int .i64 0, .int .i64 0, .int .i64 0, .int .i64 0, .int .i64 0, .int .i64 0, .string ⟨#[]⟩, .string ⟨#[]⟩]) 8 80 Tryz.underlying38 hi0 hz0 hz1 hz2 rfl (by decide) _ D.length (valsC D) rfl ?c0k0 ⟨G74, 0, none⟩ 1 1 (valsC [⟨x, m + 32768, u1, gi, (cn : Int), t, p, b⟩]) rfl (valsC_len _) ?c1k0 ?c2k0 ?c3k0 ?c4k0 ?c5k0 ?_)
                case c0k0 => exact OW.out
                case c1k0 => exact row_card hGO74
                case c2k0 => exact valsC_onecell _
                any_goals (first | (simp only [maxLen]; omega) | omega | (simp; omega))
                intro v' w7 hown hgrow hnil
                have O7 : Hid (OwnC w7 w.heap.size v' (cardsTo L (i + 1))) := Lib.hid (by rw [HC3.out]; exact own_appC hown rfl rfl hnil)
                have B7 : Hid (Below w.heap.size w w7) := Lib.hid (B.out.grown hgrow B.out.size (fun b hb => (World.ownsRow.lt OW.out b hb).1))
                clear hown hgrow hnil O B OW KC HI3 X R hC
                go_wp2_with fail
                go_roundw
                case rel => exact ⟨i + 1, by go_num, by omega, O7.out, B7.out⟩
                case measure => simp [intOf]; omega
            · subst h
              have HC3 : Hid (cardsTo L (i + 1) = D ++ [⟨x, m + 16384, u1, gi, 2, t, p, b⟩]) := Lib.hid (by rw [HC2.out]; rfl)
              clear HC2
              go_upto_region 20 with fail
              generalize hw5 : World.alloc wr _ = w5
              have NB : Below wr.heap.size wr w5 := by rw [← hw5]; exact (Below.refl _ _).alloc (Nat.le_refl _) _
              clear hw5 d0 d1 d2 d3 d4 d5 d6 d7 d8 d9
              replace O := Lib.hid (O.out.keep NB)
              replace X := Lib.hid (X.out.below NB zX)
              replace R := Lib.hid (R.out.below NB (by omega))
              replace B := Lib.hid (btE B.out NB)
              have hsz5 := B.out.size
              have zX5 := X.out.lt
              have zg5 : g < w5.heap.size := by omega
              clear NB
              have KC : Hid (∀ w', Below w5.heap.size w5 w' → w'.cell? ⟨wo.heap.size, 1, none⟩ = some (.string p) ∧ w'.cell? ⟨wo.heap.size, 3, none⟩ = some (.int .i64 m) ∧ w'.cell? ⟨wo.heap.size, 4, none⟩ = some (.int .i64 u1) ∧ w'.cell? ⟨wo.heap.size, 5, none⟩ = some (.int .i64 gi) ∧ w'.cell? ⟨wo.heap.size, 6, none⟩ = some (.int .i64 t)) := Lib.hid (fun w' hb => by
                obtain ⟨d0, d1, d2, d3, d4, d5, d6, d7, d8, d9⟩ := (X.out.below hb zX5).at.zero
                exact ⟨d1, d3, d4, d5, d6⟩)
              have HI3 := Lib.hid (fun w' (hb : Below w5.heap.size w5 w') => HI2.out w' (Nat.lt_of_lt_of_le zg5 hb.size) (R.out.below hb zg5))
              clear HI2
              refine wp_region_cut 20 (by kernel_rfl) (fun w' => Below w5.heap.size w5 w') (fun x y => Below x.heap.size x y) (vSlG 74 44 w5.heap.size #[.int .i64 x, .int .i64 (m + 16384), .int .i64 u1, .int .i64 gi, .int .i64 2, .int .i64 t, .string p, .string b] (fun d v => match d with | 55 => v = .slice (some ⟨go, 0, none⟩) D.length co | 56 => v = .slice (some ⟨g, 0, none⟩) j cap | 57 => v = .int .i64 (i : Int) | 58 => v = .int .i64 x | 59 => v = .pointer (some ⟨wo.heap.size, 3, none⟩) | 60 => v = .int .i64 m | 61 => v = .int .i64 16384 | 62 => v = .int .i64 (m + 16384) | 63 => v = .pointer (some ⟨wo.heap.size, 4, none⟩) | 64 => v = .int .i64 u1 | 65 => v = .pointer (some ⟨wo.heap.size, 5, none⟩) | 66 => v = .int .i64 gi | 67 => v = .int .i64 2 | 68 => v = .pointer (some ⟨wo.heap.size, 6, none⟩) | 69 => v = .int .i64 t | 70 => v = .pointer (some ⟨wo.heap.size, 1, none⟩) | 71 => v = .string p | 72 => v = .string b | 73 => v = .agg #[.int .i64 x, .int .i64 (m + 16384), .int .i64 u1, .int .i64 gi, .int .i64 2, .int .i64 t, .string p, .string b] | _ => True)) (by kernel_rfl) (by kernel_rfl) ((Below.refl _ _).drew) (vSlG_keep _ _ _ _ _) (by simp) ?hops ?hend
              case hops =>
                simp only [List.take_succ_cons, List.take_zero, List.forall_mem_cons]
                refine ⟨?o55, ?o56, ?o57, ?o58, ?o59, ?o60, ?o61, ?o62, ?o63, ?o64, ?o65, ?o66, ?o67, ?o68, ?o69, ?o70, ?o71, ?o72, ?o73, ?o74, fun _ h => by cases h⟩
                case o55 =>
                  intro Q a w2 hC hV hI
                  have e3 : a.eval (.tmp 3) = .slice (some ⟨go, 0, none⟩) D.length co := (hI 3 (by simp [Op.operands]) (by kernel_rfl)).trans rfl
                  have f3 : a.tmps.getD 3 undef = .slice (some ⟨go, 0, none⟩) D.length co := e3
                  have g3 : a.tmps[3]?.getD undef = .slice (some ⟨go, 0, none⟩) D.length co := by rw [← Array.getD_eq_getD_getElem?]; exact e3
                  refine op_val (.slice (some ⟨go, 0, none⟩) D.length co) ?_ hC (Below.refl _ _) (by intro d hd; cases hd; exact rfl)
                  (clear hV hI hC; go_simp <;> (first | rfl | simp | (rw [IntKind.wrap_i64]; omega)))
                case o56 =>
                  intro Q a w2 hC hV hI
                  have e0 : a.eval (.tmp 0) = .slice (some ⟨g, 0, none⟩) j cap := (hI 0 (by simp [Op.operands]) (by kernel_rfl)).trans rfl
                  have f0 : a.tmps.getD 0 undef = .slice (some ⟨g, 0, none⟩) j cap := e0
                  have g0 : a.tmps[0]?.getD undef = .slice (some ⟨g, 0, none⟩) j cap := by rw [← Array.getD_eq_getD_getElem?]; exact e0
                  refine op_val (.slice (some ⟨g, 0, none⟩) j cap) ?_ hC (Below.refl _ _) (by intro d hd; cases hd; exact rfl)
                  (clear hV hI hC; go_simp <;> (first | rfl | simp | (rw [IntKind.wrap_i64]; omega)))
                case o57 =>
                  intro Q a w2 hC hV hI
                  have e4 : a.eval (.tmp 4) = .int .i64 (i : Int) := (hI 4 (by simp [Op.operands]) (by kernel_rfl)).trans rfl
                  have f4 : a.tmps.getD 4 undef = .int .i64 (i : Int) := e4
                  have g4 : a.tmps[4]?.getD undef = .int .i64 (i : Int) := by rw [← Array.getD_eq_getD_getElem?]; exact e4
                  refine op_val (.int .i64 (i : Int)) ?_ hC (Below.refl _ _) (by intro d hd; cases hd; exact rfl)
                  (clear hV hI hC; go_simp <;> (first | rfl | simp | (rw [IntKind.wrap_i64]; omega)))
                case o58 =>
                  intro Q a w2 hC hV hI
                  have e56 : a.eval (.tmp 56) = .slice (some ⟨g, 0, none⟩) j cap := hV 56 (by simp [Op.operands, Call.operands]) (by kernel_rfl)
                  have f56 : a.tmps.getD 56 undef = .slice (some ⟨g, 0, none⟩) j cap := e56
                  have g56 : a.tmps[56]?.getD undef = .slice (some ⟨g, 0, none⟩) j cap := by rw [← Array.getD_eq_getD_getElem?]; exact e56
                  have e57 : a.eval (.tmp 57) = .int .i64 (i : Int) := hV 57 (by simp [Op.operands, Call.operands]) (by kernel_rfl)
                  have f57 : a.tmps.getD 57 undef = .int .i64 (i : Int) := e57
                  have g57 : a.tmps[57]?.getD undef = .int .i64 (i : Int) := by rw [← Array.getD_eq_getD_getElem?]; exact e57
                  refine op_call (f := 32) (args := #[.slice (some ⟨g, 0, none⟩) j cap, .int .i64 (i : Int)]) (R := fun v y => v = .int .i64 x ∧ Below w2.heap.size w2 y) ?_ ((HI3.out w2 hC).mono ?_) ?_
                  · (clear hV hI hC; go_simp <;> (first | rfl | simp | (rw [IntKind.wrap_i64]; omega)))
                  · rintro e y ⟨rfl, hb⟩; exact ⟨_, rfl, rfl, hb⟩
                  · rintro v y ⟨rfl, hb⟩; exact ⟨hC.trans (hb.mono hC.size), hb, by intro d hd; cases hd; exact rfl⟩
                case o59 =>
                  intro Q a w2 hC hV hI
                  have e5 : a.eval (.tmp 5) = .pointer (some ⟨wo.heap.size, 0, none⟩) := (hI 5 (by simp [Op.operands]) (by kernel_rfl)).trans rfl
                  have f5 : a.tmps.getD 5 undef = .pointer (some ⟨wo.heap.size, 0, none⟩) := e5
                  have g5 : a.tmps[5]?.getD undef = .pointer (some ⟨wo.heap.size, 0, none⟩) := by rw [← Array.getD_eq_getD_getElem?]; exact e5
                  refine op_val (.pointer (some ⟨wo.heap.size, 3, none⟩)) ?_ hC (Below.refl _ _) (by intro d hd; cases hd; exact rfl)
                  (clear hV hI hC; go_simp <;> (first | rfl | simp | (rw [IntKind.wrap_i64]; omega)))
                case o60 =>
                  intro Q a w2 hC hV hI
                  have e59 : a.eval (.tmp 59) = .pointer (some ⟨wo.heap.size, 3, none⟩) := hV 59 (by simp [Op.operands]) (by kernel_rfl)
                  have f59 : a.tmps.getD 59 undef = .pointer (some ⟨wo.heap.size, 3, none⟩) := e59
                  have g59 : a.tmps[59]?.getD undef = .pointer (some ⟨wo.heap.size, 3, none⟩) := by rw [← Array.getD_eq_getD_getElem?]; exact e59
                  have hK := KC.out w2 hC
                  refine op_val (.int .i64 m) ?_ hC (Below.refl _ _) (by intro d hd; cases hd; exact rfl)
                  (clear hV hI hC; go_simp <;> (first | rfl | simp | (rw [IntKind.wrap_i64]; omega)))
                case o61 =>
                  intro Q a w2 hC hV hI
                  have e9 : a.eval (.tmp 9) = .int .i64 16384 := (hI 9 (by simp [Op.operands]) (by kernel_rfl)).trans rfl
                  have f9 : a.tmps.getD 9 undef = .int .i64 16384 := e9
                  have g9 : a.tmps[9]?.getD undef = .int .i64 16384 := by rw [← Array.getD_eq_getD_getElem?]; exact e9
                  refine op_val (.int .i64 16384) ?_ hC (Below.refl _ _) (by intro d hd; cases hd; exact rfl)
                  (clear hV hI hC; go_simp <;> (first | rfl | simp | (rw [IntKind.wrap_i64]; omega)))
                case o62 =>
                  intro Q a w2 hC hV hI
                  have e60 : a.eval (.tmp 60) = .int .i64 m := hV 60 (by simp [Op.operands]) (by kernel_rfl)
                  have f60 : a.tmps.getD 60 undef = .int .i64 m := e60
                  have g60 : a.tmps[60]?.getD undef = .int .i64 m := by rw [← Array.getD_eq_getD_getElem?]; exact e60
                  have e61 : a.eval (.tmp 61) = .int .i64 16384 := hV 61 (by simp [Op.operands]) (by kernel_rfl)
                  have f61 : a.tmps.getD 61 undef = .int .i64 16384 := e61
                  have g61 : a.tmps[61]?.getD undef = .int .i64 16384 := by rw [← Array.getD_eq_getD_getElem?]; exact e61
                  have q9 := add_i64 (P := Tryz.prog) (a := m) (b := 16384) w2 3 (by omega) (by omega)
                  refine op_val (.int .i64 (m + 16384)) ?_ hC (Below.refl _ _) (by intro d hd; cases hd; exact rfl)
                  (clear hV hI hC; go_simp <;> (first | rfl | simp | (rw [IntKind.wrap_i64]; omega)))
                case o63 =>
                  intro Q a w2 hC hV hI
                  have e5 : a.eval (.tmp 5) = .pointer (some ⟨wo.heap.size, 0, none⟩) := (hI 5 (by simp [Op.operands]) (by kernel_rfl)).trans rfl
                  have f5 : a.tmps.getD 5 undef = .pointer (some ⟨wo.heap.size, 0, none⟩) := e5
                  have g5 : a.tmps[5]?.getD undef = .pointer (some ⟨wo.heap.size, 0, none⟩) := by rw [← Array.getD_eq_getD_getElem?]; exact e5
                  refine op_val (.pointer (some ⟨wo.heap.size, 4, none⟩)) ?_ hC (Below.refl _ _) (by intro d hd; cases hd; exact rfl)
                  (clear hV hI hC; go_simp <;> (first | rfl | simp | (rw [IntKind.wrap_i64]; omega)))
                case o64 =>
                  intro Q a w2 hC hV hI
                  have e63 : a.eval (.tmp 63) = .pointer (some ⟨wo.heap.size, 4, none⟩) := hV 63 (by simp [Op.operands]) (by kernel_rfl)
                  have f63 : a.tmps.getD 63 undef = .pointer (some ⟨wo.heap.size, 4, none⟩) := e63
                  have g63 : a.tmps[63]?.getD undef = .pointer (some ⟨wo.heap.size, 4, none⟩) := by rw [← Array.getD_eq_getD_getElem?]; exact e63
                  have hK := KC.out w2 hC
                  refine op_val (.int .i64 u1) ?_ hC (Below.refl _ _) (by intro d hd; cases hd; exact rfl)
                  (clear hV hI hC; go_simp <;> (first | rfl | simp | (rw [IntKind.wrap_i64]; omega)))
                case o65 =>
                  intro Q a w2 hC hV hI
                  have e5 : a.eval (.tmp 5) = .pointer (some ⟨wo.heap.size, 0, none⟩) := (hI 5 (by simp [Op.operands]) (by kernel_rfl)).trans rfl
                  have f5 : a.tmps.getD 5 undef = .pointer (some ⟨wo.heap.size, 0, none⟩) := e5
                  have g5 : a.tmps[5]?.getD undef = .pointer (some ⟨wo.heap.size, 0, none⟩) := by rw [← Array.getD_eq_getD_getElem?]; exact e5
                  refine op_val (.pointer (some ⟨wo.heap.size, 5, none⟩)) ?_ hC (Below.refl _ _) (by intro d hd; cases hd; exact rfl)
                  (clear hV hI hC; go_simp <;> (first | rfl | simp | (rw [IntKind.wrap_i64]; omega)))
                case o66 =>
                  intro Q a w2 hC hV hI
                  have e65 : a.eval (.tmp 65) = .pointer (some ⟨wo.heap.size, 5, none⟩) := hV 65 (by simp [Op.operands]) (by kernel_rfl)
                  have f65 : a.tmps.getD 65 undef = .pointer (some ⟨wo.heap.size, 5, none⟩) := e65
                  have g65 : a.tmps[65]?.getD undef = .pointer (some ⟨wo.heap.size, 5, none⟩) := by rw [← Array.getD_eq_getD_getElem?]; exact e65
                  have hK := KC.out w2 hC
                  refine op_val (.int .i64 gi) ?_ hC (Below.refl _ _) (by intro d hd; cases hd; exact rfl)
                  (clear hV hI hC; go_simp <;> (first | rfl | simp | (rw [IntKind.wrap_i64]; omega)))
                case o67 =>
                  intro Q a w2 hC hV hI
                  have e6 : a.eval (.tmp 6) = .int .i64 2 := (hI 6 (by simp [Op.operands]) (by kernel_rfl)).trans rfl
                  have f6 : a.tmps.getD 6 undef = .int .i64 2 := e6
                  have g6 : a.tmps[6]?.getD undef = .int .i64 2 := by rw [← Array.getD_eq_getD_getElem?]; exact e6
                  refine op_val (.int .i64 2) ?_ hC (Below.refl _ _) (by intro d hd; cases hd; exact rfl)
                  (clear hV hI hC; go_simp <;> (first | rfl | simp | (rw [IntKind.wrap_i64]; omega)))
                case o68 =>
                  intro Q a w2 hC hV hI
                  have e5 : a.eval (.tmp 5) = .pointer (some ⟨wo.heap.size, 0, none⟩) := (hI 5 (by simp [Op.operands]) (by kernel_rfl)).trans rfl
                  have f5 : a.tmps.getD 5 undef = .pointer (some ⟨wo.heap.size, 0, none⟩) := e5
                  have g5 : a.tmps[5]?.getD undef = .pointer (some ⟨wo.heap.size, 0, none⟩) := by rw [← Array.getD_eq_getD_getElem?]; exact e5
                  refine op_val (.pointer (some ⟨wo.heap.size, 6, none⟩)) ?_ hC (Below.refl _ _) (by intro d hd; cases hd; exact rfl)
                  (clear hV hI hC; go_simp <;> (first | rfl | simp | (rw [IntKind.wrap_i64]; omega)))
                case o69 =>
                  intro Q a w2 hC hV hI
                  have e68 : a.eval (.tmp 68) = .pointer (some ⟨wo.heap.size, 6, none⟩) := hV 68 (by simp [Op.operands]) (by kernel_rfl)
                  have f68 : a.tmps.getD 68 undef = .pointer (some ⟨wo.heap.size, 6, none⟩) := e68
                  have g68 : a.tmps[68]?.getD undef = .pointer (some ⟨wo.heap.size, 6, none⟩) := by rw [← Array.getD_eq_getD_getElem?]; exact e68
                  have hK := KC.out w2 hC
                  refine op_val (.int .i64 t) ?_ hC (Below.refl _ _) (by intro d hd; cases hd; exact rfl)
                  (clear hV hI hC; go_simp <;> (first | rfl | simp | (rw [IntKind.wrap_i64]; omega)))
                case o70 =>
                  intro Q a w2 hC hV hI
                  have e5 : a.eval (.tmp 5) = .pointer (some ⟨wo.heap.size, 0, none⟩) := (hI 5 (by simp [Op.operands]) (by kernel_rfl)).trans rfl
                  have f5 : a.tmps.getD 5 undef = .pointer (some ⟨wo.heap.size, 0, none⟩) := e5
                  have g5 : a.tmps[5]?.getD undef = .pointer (some ⟨wo.heap.size, 0, none⟩) := by rw [← Array.getD_eq_getD_getElem?]; exact e5
                  refine op_val (.pointer (some ⟨wo.heap.size, 1, none⟩)) ?_ hC (Below.refl _ _) (by intro d hd; cases hd; exact rfl)
                  (clear hV hI hC; go_simp <;> (first | rfl | simp | (rw [IntKind.wrap_i64]; omega)))
                case o71 =>
                  intro Q a w2 hC hV hI
                  have e70 : a.eval (.tmp 70) = .pointer (some ⟨wo.heap.size, 1, none⟩) := hV 70 (by simp [Op.operands]) (by kernel_rfl)
                  have f70 : a.tmps.getD 70 undef = .pointer (some ⟨wo.heap.size, 1, none⟩) := e70
                  have g70 : a.tmps[70]?.getD undef = .pointer (some ⟨wo.heap.size, 1, none⟩) := by rw [← Array.getD_eq_getD_getElem?]; exact e70
                  have hK := KC.out w2 hC
                  refine op_val (.string p) ?_ hC (Below.refl _ _) (by intro d hd; cases hd; exact rfl)
                  (clear hV hI hC; go_simp <;> (first | rfl | simp | (rw [IntKind.wrap_i64]; omega)))
                case o72 =>
                  intro Q a w2 hC hV hI
                  have e8 : a.eval (.tmp 8) = .string b := (hI 8 (by simp [Op.operands]) (by kernel_rfl)).trans rfl
                  have f8 : a.tmps.getD 8 undef = .string b := e8
                  have g8 : a.tmps[8]?.getD undef = .string b := by rw [← Array.getD_eq_getD_getElem?]; exact e8
                  refine op_val (.string b) ?_ hC (Below.refl _ _) (by intro d hd; cases hd; exact rfl)
                  (clear hV hI hC; go_simp <;> (first | rfl | simp | (rw [IntKind.wrap_i64]; omega)))
                case o73 =>
                  intro Q a w2 hC hV hI
                  have e58 : a.eval (.tmp 58) = .int .i64 x := hV 58 (by simp [Op.operands]) (by kernel_rfl)
                  have f58 : a.tmps.getD 58 undef = .int .i64 x := e58
                  have g58 : a.tmps[58]?.getD undef = .int .i64 x := by rw [← Array.getD_eq_getD_getElem?]; exact e58
                  have e62 : a.eval (.tmp 62) = .int .i64 (m + 16384) := hV 62 (by simp [Op.operands]) (by kernel_rfl)
                  have f62 : a.tmps.getD 62 undef = .int .i64 (m + 16384) := e62
                  have g62 : a.tmps[62]?.getD undef = .int .i64 (m + 16384) := by rw [← Array.getD_eq_getD_getElem?]; exact e62
                  have e64 : a.eval (.tmp 64) = .int .i64 u1 := hV 64 (by simp [Op.operands]) (by kernel_rfl)
                  have f64 : a.tmps.getD 64 undef = .int .i64 u1 := e64
                  have g64 : a.tmps[64]?.getD undef = .int .i64 u1 := by rw [← Array.getD_eq_getD_getElem?]; exact e64
                  have e66 : a.eval (.tmp 66) = .int .i64 gi := hV 66 (by simp [Op.operands]) (by kernel_rfl)
                  have f66 : a.tmps.getD 66 undef = .int .i64 gi := e66
                  have g66 : a.tmps[66]?.getD undef = .int .i64 gi := by rw [← Array.getD_eq_getD_getElem?]; exact e66
                  have e67 : a.eval (.tmp 67) = .int .i64 2 := hV 67 (by simp [Op.operands]) (by kernel_rfl)
                  have f67 : a.tmps.getD 67 undef = .int .i64 2 := e67
                  have g67 : a.tmps[67]?.getD undef = .int .i64 2 := by rw [← Array.getD_eq_getD_getElem?]; exact e67
                  have e69 : a.eval (.tmp 69) = .int .i64 t := hV 69 (by simp [Op.operands]) (by kernel_rfl)
                  have f69 : a.tmps.getD 69 undef = .int .i64 t := e69
                  have g69 : a.tmps[69]?.getD undef = .int .i64 t := by rw [← Array.getD_eq_getD_getElem?]; exact e69
                  have e71 : a.eval (.tmp 71) = .string p := hV 71 (by simp [Op.operands]) (by kernel_rfl)
                  have f71 : a.tmps.getD 71 undef = .string p := e71
                  have g71 : a.tmps[71]?.getD undef = .string p := by rw [← Array.getD_eq_getD_getElem?]; exact e71
                  have e72 : a.eval (.tmp 72) = .string b := hV 72 (by simp [Op.operands]) (by kernel_rfl)
                  have f72 : a.tmps.getD 72 undef = .string b := e72
                  have g72 : a.tmps[72]?.getD undef = .string b := by rw [← Array.getD_eq_getD_getElem?]; exact e72
                  refine op_val (.agg #[.int .i64 x, .int .i64 (m + 16384), .int .i64 u1, .int .i64 gi, .int .i64 2, .int .i64 t, .string p, .string b]) ?_ hC (Below.refl _ _) (by intro d hd; cases hd; exact rfl)
                  (clear hV hI hC; go_simp <;> (first | rfl | simp | (rw [IntKind.wrap_i64]; omega)))
                case o74 =>
                  intro Q a w2 hC hV hI
                  have e73 : a.eval (.tmp 73) = .agg #[.int .i64 x, .int .i64 (m + 16384), .int .i64 u1, .int .i64 gi, .int .i64 2, .int .i64 t, .string p, .string b] := hV 73 (by simp [Op.operands]) (by kernel_rfl)
                  have f73 : a.tmps.getD 73 undef = .agg #[.int .i64 x, .int .i64 (m + 16384), .int .i64 u1, .int .i64 gi, .int .i64 2, .int .i64 t, .string p, .string b] := e73
                  have g73 : a.tmps[73]?.getD undef = .agg #[.int .i64 x, .int .i64 (m + 16384), .int .i64 u1, .int .i64 gi, .int .i64 2, .int .i64 t, .string p, .string b] := by rw [← Array.getD_eq_getD_getElem?]; exact e73
                  refine op_val (.slice (some ⟨w2.heap.size, 0, none⟩) 1 1) (w' := w2.alloc (.cells #[.int .i64 x, .int .i64 (m + 16384), .int .i64 u1, .int .i64 gi, .int .i64 2, .int .i64 t, .string p, .string b] 44)) ?_ (hC.alloc hC.size _) ((Below.refl _ _).alloc (Nat.le_refl _) _) ?_
                  · (clear hV hI hC; go_simp <;> (first | rfl | simp | (rw [IntKind.wrap_i64]; omega)))
                  · intro d hd; cases hd; exact ⟨w2.heap.size, rfl, hC.size, heap_lastG _ _⟩
              case hend =>
                intro f w6 hC hall
                simp only [List.take_succ_cons, List.take_zero, List.drop_succ_cons, List.drop_zero] at hall ⊢
                simp only [List.forall_mem_cons] at hall
                obtain ⟨h55, h56, h57, h58, h59, h60, h61, h62, h63, h64, h65, h66, h67, h68, h69, h70, h71, h72, h73, h74, _⟩ := hall
                replace h55 : f 55 = .slice (some ⟨go, 0, none⟩) D.length co := h55 55 rfl
                replace h56 : f 56 = .slice (some ⟨g, 0, none⟩) j cap := h56 56 rfl
                replace h57 : f 57 = .int .i64 (i : Int) := h57 57 rfl
                replace h58 : f 58 = .int .i64 x := h58 58 rfl
                replace h59 : f 59 = .pointer (some ⟨wo.heap.size, 3, none⟩) := h59 59 rfl
                replace h60 : f 60 = .int .i64 m := h60 60 rfl
                replace h61 : f 61 = .int .i64 16384 := h61 61 rfl
                replace h62 : f 62 = .int .i64 (m + 16384) := h62 62 rfl
                replace h63 : f 63 = .pointer (some ⟨wo.heap.size, 4, none⟩) := h63 63 rfl
                replace h64 : f 64 = .int .i64 u1 := h64 64 rfl
                replace h65 : f 65 = .pointer (some ⟨wo.heap.size, 5, none⟩) := h65 65 rfl
                replace h66 : f 66 = .int .i64 gi := h66 66 rfl
                replace h67 : f 67 = .int .i64 2 := h67 67 rfl
                replace h68 : f 68 = .pointer (some ⟨wo.heap.size, 6, none⟩) := h68 68 rfl
                replace h69 : f 69 = .int .i64 t := h69 69 rfl
                replace h70 : f 70 = .pointer (some ⟨wo.heap.size, 1, none⟩) := h70 70 rfl
                replace h71 : f 71 = .string p := h71 71 rfl
                replace h72 : f 72 = .string b := h72 72 rfl
                replace h73 : f 73 = .agg #[.int .i64 x, .int .i64 (m + 16384), .int .i64 u1, .int .i64 gi, .int .i64 2, .int .i64 t, .string p, .string b] := h73 73 rfl
                obtain ⟨G74, hG74, hGB74, hGO74⟩ : ∃ G, f 74 = .slice (some ⟨G, 0, none⟩) 1 1 ∧ w5.heap.size ≤ G ∧ w6.heap[G]? = some (.cells #[.int .i64 x, .int .i64 (m + 16384), .int .i64 u1, .int .i64 gi, .int .i64 2, .int .i64 t, .string p, .string b] 44 (0, 0)) := h74 74 rfl
                simp only [putAll, Act.put, List.setIfInBounds_toArray, List.set_cons_succ, List.set_cons_zero, h55, h56, h57, h58, h59, h60, h61, h62, h63, h64, h65, h66, h67, h68, h69, h70, h71, h72, h73, hG74]
                clear h55 h56 h57 h58 h59 h60 h61 h62 h63 h64 h65 h66 h67 h68 h69 h70 h71 h72 h73 hG74 h74
                replace O := Lib.hid (O.out.keep hC)
                replace B := Lib.hid (btE B.out hC)
                have OW := Lib.hid O.out.1
                have hsz6 := B.out.size
                go_wp2_with (at_builtin; refine wpList_append_own _ rfl _ _ 38 rfl w.heap.size 44 i0 (.agg #[.int .i64 0, .int .i64 0, .int .i64 0, .int .i64 0, .int .i64 0, .int .i64 0, .string ⟨#[]⟩, .string ⟨#[]⟩]) 8 80 Tryz.underlying38 hi0 hz0 hz1 hz2 rfl (by decide) _ D.length (valsC D) rfl ?c0k1 ⟨G74, 0, none⟩ 1 1 (valsC [⟨x, m + 16384, u1, gi, 2, t, p, b⟩]) rfl (valsC_len _) ?c1k1 ?c2k1 ?c3k1 ?c4k1 ?c5k1 ?_)
                case c0k1 => exact OW.out
                case c1k1 => exact row_card hGO74
                case c2k1 => exact valsC_onecell _
                any_goals (first | (simp only [maxLen]; omega) | omega | (simp; omega))
                intro v' w7 hown hgrow hnil
                have O7 : Hid (OwnC w7 w.heap.size v' (cardsTo L (i + 1))) := Lib.hid (by rw [HC3.out]; exact own_appC hown rfl rfl hnil)
                have B7 : Hid (Below w.heap.size w w7) := Lib.hid (B.out.grown hgrow B.out.size (fun b hb => (World.ownsRow.lt OW.out b hb).1))
                clear hown hgrow hnil O B OW KC HI3 X R hC
                go_wp2_with fail
                go_roundw
                case rel => exact ⟨i + 1, by go_num, by omega, O7.out, B7.out⟩
                case measure => simp [intOf]; omega
            · subst h
              have HC3 : Hid (cardsTo L (i + 1) = D ++ [⟨x, m + 40960, u1, gi, (cn : Int), t, p, l⟩]) := Lib.hid (by rw [HC2.out]; rfl)
              clear HC2
              go_upto_region 20 with fail
              generalize hw5 : World.alloc wr _ = w5
              have NB : Below wr.heap.size wr w5 := by rw [← hw5]; exact (Below.refl _ _).alloc (Nat.le_refl _) _
              clear hw5 d0 d1 d2 d3 d4 d5 d6 d7 d8 d9
              replace O := Lib.hid (O.out.keep NB)
              replace X := Lib.hid (X.out.below NB zX)
              replace R := Lib.hid (R.out.below NB (by omega))
              replace B := Lib.hid (btE B.out NB)
              have hsz5 := B.out.size
              have zX5 := X.out.lt
              have zg5 : g < w5.heap.size := by omega
              clear NB
              have KC : Hid (∀ w', Below w5.heap.size w5 w' → w'.cell? ⟨wo.heap.size, 1, none⟩ = some (.string p) ∧ w'.cell? ⟨wo.heap.size, 3, none⟩ = some (.int .i64 m) ∧ w'.cell? ⟨wo.heap.size, 4, none⟩ = some (.int .i64 u1) ∧ w'.cell? ⟨wo.heap.size, 5, none⟩ = some (.int .i64 gi) ∧ w'.cell? ⟨wo.heap.size, 6, none⟩ = some (.int .i64 t)) := Lib.hid (fun w' hb => by
                obtain ⟨d0, d1, d2, d3, d4, d5, d6, d7, d8, d9⟩ := (X.out.below hb zX5).at.zero
                exact ⟨d1, d3, d4, d5, d6⟩)
              have HI3 := Lib.hid (fun w' (hb : Below w5.heap.size w5 w') => HI2.out w' (Nat.lt_of_lt_of_le zg5 hb.size) (R.out.below hb zg5))
              clear HI2
              refine wp_region_cut 20 (by kernel_rfl) (fun w' => Below w5.heap.size w5 w') (fun x y => Below x.heap.size x y) (vSlG 74 44 w5.heap.size #[.int .i64 x, .int .i64 (m + 40960), .int .i64 u1, .int .i64 gi, .int .i64 (cn : Int), .int .i64 t, .string p, .string l] (fun d v => match d with | 55 => v = .slice (some ⟨go, 0, none⟩) D.length co | 56 => v = .slice (some ⟨g, 0, none⟩) j cap | 57 => v = .int .i64 (i : Int) | 58 => v = .int .i64 x | 59 => v = .pointer (some ⟨wo.heap.size, 3, none⟩) | 60 => v = .int .i64 m | 61 => v = .int .i64 40960 | 62 => v = .int .i64 (m + 40960) | 63 => v = .pointer (some ⟨wo.heap.size, 4, none⟩) | 64 => v = .int .i64 u1 | 65 => v = .pointer (some ⟨wo.heap.size, 5, none⟩) | 66 => v = .int .i64 gi | 67 => v = .int .i64 (cn : Int) | 68 => v = .pointer (some ⟨wo.heap.size, 6, none⟩) | 69 => v = .int .i64 t | 70 => v = .pointer (some ⟨wo.heap.size, 1, none⟩) | 71 => v = .string p | 72 => v = .string l | 73 => v = .agg #[.int .i64 x, .int .i64 (m + 40960), .int .i64 u1, .int .i64 gi, .int .i64 (cn : Int), .int .i64 t, .string p, .string l] | _ => True)) (by kernel_rfl) (by kernel_rfl) ((Below.refl _ _).drew) (vSlG_keep _ _ _ _ _) (by simp) ?hops ?hend
              case hops =>
                simp only [List.take_succ_cons, List.take_zero, List.forall_mem_cons]
                refine ⟨?o55, ?o56, ?o57, ?o58, ?o59, ?o60, ?o61, ?o62, ?o63, ?o64, ?o65, ?o66, ?o67, ?o68, ?o69, ?o70, ?o71, ?o72, ?o73, ?o74, fun _ h => by cases h⟩
                case o55 =>
                  intro Q a w2 hC hV hI
                  have e3 : a.eval (.tmp 3) = .slice (some ⟨go, 0, none⟩) D.length co := (hI 3 (by simp [Op.operands]) (by kernel_rfl)).trans rfl
                  have f3 : a.tmps.getD 3 undef = .slice (some ⟨go, 0, none⟩) D.length co := e3
                  have g3 : a.tmps[3]?.getD undef = .slice (some ⟨go, 0, none⟩) D.length co := by rw [← Array.getD_eq_getD_getElem?]; exact e3
                  refine op_val (.slice (some ⟨go, 0, none⟩) D.length co) ?_ hC (Below.refl _ _) (by intro d hd; cases hd; exact rfl)
                  (clear hV hI hC; go_simp <;> (first | rfl | simp | (rw [IntKind.wrap_i64]; omega)))
                case o56 =>
                  intro Q a w2 hC hV hI
                  have e0 : a.eval (.tmp 0) = .slice (some ⟨g, 0, none⟩) j cap := (hI 0 (by simp [Op.operands]) (by kernel_rfl)).trans rfl
                  have f0 : a.tmps.getD 0 undef = .slice (some ⟨g, 0, none⟩) j cap := e0
                  have g0 : a.tmps[0]?.getD undef = .slice (some ⟨g, 0, none⟩) j cap := by rw [← Array.getD_eq_getD_getElem?]; exact e0
                  refine op_val (.slice (some ⟨g, 0, none⟩) j cap) ?_ hC (Below.refl _ _) (by intro d hd; cases hd; exact rfl)
                  (clear hV hI hC; go_simp <;> (first | rfl | simp | (rw [IntKind.wrap_i64]; omega)))
                case o57 =>
                  intro Q a w2 hC hV hI
                  have e4 : a.eval (.tmp 4) = .int .i64 (i : Int) := (hI 4 (by simp [Op.operands]) (by kernel_rfl)).trans rfl
                  have f4 : a.tmps.getD 4 undef = .int .i64 (i : Int) := e4
                  have g4 : a.tmps[4]?.getD undef = .int .i64 (i : Int) := by rw [← Array.getD_eq_getD_getElem?]; exact e4
                  refine op_val (.int .i64 (i : Int)) ?_ hC (Below.refl _ _) (by intro d hd; cases hd; exact rfl)
                  (clear hV hI hC; go_simp <;> (first | rfl | simp | (rw [IntKind.wrap_i64]; omega)))
                case o58 =>
                  intro Q a w2 hC hV hI
                  have e56 : a.eval (.tmp 56) = .slice (some ⟨g, 0, none⟩) j cap := hV 56 (by simp [Op.operands, Call.operands]) (by kernel_rfl)
                  have f56 : a.tmps.getD 56 undef = .slice (some ⟨g, 0, none⟩) j cap := e56
                  have g56 : a.tmps[56]?.getD undef = .slice (some ⟨g, 0, none⟩) j cap := by rw [← Array.getD_eq_getD_getElem?]; exact e56
                  have e57 : a.eval (.tmp 57) = .int .i64 (i : Int) := hV 57 (by simp [Op.operands, Call.operands]) (by kernel_rfl)
                  have f57 : a.tmps.getD 57 undef = .int .i64 (i : Int) := e57
                  have g57 : a.tmps[57]?.getD undef = .int .i64 (i : Int) := by rw [← Array.getD_eq_getD_getElem?]; exact e57
                  refine op_call (f := 32) (args := #[.slice (some ⟨g, 0, none⟩) j cap, .int .i64 (i : Int)]) (R := fun v y => v = .int .i64 x ∧ Below w2.heap.size w2 y) ?_ ((HI3.out w2 hC).mono ?_) ?_
                  · (clear hV hI hC; go_simp <;> (first | rfl | simp | (rw [IntKind.wrap_i64]; omega)))
                  · rintro e y ⟨rfl, hb⟩; exact ⟨_, rfl, rfl, hb⟩
                  · rintro v y ⟨rfl, hb⟩; exact ⟨hC.trans (hb.mono hC.size), hb, by intro d hd; cases hd; exact rfl⟩
                case o59 =>
                  intro Q a w2 hC hV hI
                  have e5 : a.eval (.tmp 5) = .pointer (some ⟨wo.heap.size, 0, none⟩) := (hI 5 (by simp [Op.operands]) (by kernel_rfl)).trans rfl
                  have f5 : a.tmps.getD 5 undef = .pointer (some ⟨wo.heap.size, 0, none⟩) := e5
                  have g5 : a.tmps[5]?.getD undef = .pointer (some ⟨wo.heap.size, 0, none⟩) := by rw [← Array.getD_eq_getD_getElem?]; exact e5
                  refine op_val (.pointer (some ⟨wo.heap.size, 3, none⟩)) ?_ hC (Below.refl _ _) (by intro d hd; cases hd; exact rfl)
                  (clear hV hI hC; go_simp <;> (first | rfl | simp | (rw [IntKind.wrap_i64]; omega)))
                case o60 =>
                  intro Q a w2 hC hV hI
                  have e59 : a.eval (.tmp 59) = .pointer (some ⟨wo.heap.size, 3, none⟩) := hV 59 (by simp [Op.operands]) (by kernel_rfl)
                  have f59 : a.tmps.getD 59 undef = .pointer (some ⟨wo.heap.size, 3, none⟩) := e59
                  have g59 : a.tmps[59]?.getD undef = .pointer (some ⟨wo.heap.size, 3, none⟩) := by rw [← Array.getD_eq_getD_getElem?]; exact e59
                  have hK := KC.out w2 hC
                  refine op_val (.int .i64 m) ?_ hC (Below.refl _ _) (by intro d hd; cases hd; exact rfl)
                  (clear hV hI hC; go_simp <;> (first | rfl | simp | (rw [IntKind.wrap_i64]; omega)))
                case o61 =>
                  intro Q a w2 hC hV hI
                  have e9 : a.eval (.tmp 9) = .int .i64 40960 := (hI 9 (by simp [Op.operands]) (by kernel_rfl)).trans rfl
                  have f9 : a.tmps.getD 9 undef = .int .i64 40960 := e9
                  have g9 : a.tmps[9]?.getD undef = .int .i64 40960 := by rw [← Array.getD_eq_getD_getElem?]; exact e9
                  refine op_val (.int .i64 40960) ?_ hC (Below.refl _ _) (by intro d hd; cases hd; exact rfl)
                  (clear hV hI hC; go_simp <;> (first | rfl | simp | (rw [IntKind.wrap_i64]; omega)))
                case o62 =>
                  intro Q a w2 hC hV hI
                  have e60 : a.eval (.tmp 60) = .int .i64 m := hV 60 (by simp [Op.operands]) (by kernel_rfl)
                  have f60 : a.tmps.getD 60 undef = .int .i64 m := e60
                  have g60 : a.tmps[60]?.getD undef = .int .i64 m := by rw [← Array.getD_eq_getD_getElem?]; exact e60
                  have e61 : a.eval (.tmp 61) = .int .i64 40960 := hV 61 (by simp [Op.operands]) (by kernel_rfl)
                  have f61 : a.tmps.getD 61 undef = .int .i64 40960 := e61
                  have g61 : a.tmps[61]?.getD undef = .int .i64 40960 := by rw [← Array.getD_eq_getD_getElem?]; exact e61
                  have q9 := add_i64 (P := Tryz.prog) (a := m) (b := 40960) w2 3 (by omega) (by omega)
                  refine op_val (.int .i64 (m + 40960)) ?_ hC (Below.refl _ _) (by intro d hd; cases hd; exact rfl)
                  (clear hV hI hC; go_simp <;> (first | rfl | simp | (rw [IntKind.wrap_i64]; omega)))
                case o63 =>
                  intro Q a w2 hC hV hI
                  have e5 : a.eval (.tmp 5) = .pointer (some ⟨wo.heap.size, 0, none⟩) := (hI 5 (by simp [Op.operands]) (by kernel_rfl)).trans rfl
                  have f5 : a.tmps.getD 5 undef = .pointer (some ⟨wo.heap.size, 0, none⟩) := e5
                  have g5 : a.tmps[5]?.getD undef = .pointer (some ⟨wo.heap.size, 0, none⟩) := by rw [← Array.getD_eq_getD_getElem?]; exact e5
                  refine op_val (.pointer (some ⟨wo.heap.size, 4, none⟩)) ?_ hC (Below.refl _ _) (by intro d hd; cases hd; exact rfl)
                  (clear hV hI hC; go_simp <;> (first | rfl | simp | (rw [IntKind.wrap_i64]; omega)))
                case o64 =>
                  intro Q a w2 hC hV hI
                  have e63 : a.eval (.tmp 63) = .pointer (some ⟨wo.heap.size, 4, none⟩) := hV 63 (by simp [Op.operands]) (by kernel_rfl)
                  have f63 : a.tmps.getD 63 undef = .pointer (some ⟨wo.heap.size, 4, none⟩) := e63
                  have g63 : a.tmps[63]?.getD undef = .pointer (some ⟨wo.heap.size, 4, none⟩) := by rw [← Array.getD_eq_getD_getElem?]; exact e63
                  have hK := KC.out w2 hC
                  refine op_val (.int .i64 u1) ?_ hC (Below.refl _ _) (by intro d hd; cases hd; exact rfl)
                  (clear hV hI hC; go_simp <;> (first | rfl | simp | (rw [IntKind.wrap_i64]; omega)))
                case o65 =>
                  intro Q a w2 hC hV hI
                  have e5 : a.eval (.tmp 5) = .pointer (some ⟨wo.heap.size, 0, none⟩) := (hI 5 (by simp [Op.operands]) (by kernel_rfl)).trans rfl
                  have f5 : a.tmps.getD 5 undef = .pointer (some ⟨wo.heap.size, 0, none⟩) := e5
                  have g5 : a.tmps[5]?.getD undef = .pointer (some ⟨wo.heap.size, 0, none⟩) := by rw [← Array.getD_eq_getD_getElem?]; exact e5
                  refine op_val (.pointer (some ⟨wo.heap.size, 5, none⟩)) ?_ hC (Below.refl _ _) (by intro d hd; cases hd; exact rfl)
                  (clear hV hI hC; go_simp <;> (first | rfl | simp | (rw [IntKind.wrap_i64]; omega)))
                case o66 =>
                  intro Q a w2 hC hV hI
                  have e65 : a.eval (.tmp 65) = .pointer (some ⟨wo.heap.size, 5, none⟩) := hV 65 (by simp [Op.operands]) (by kernel_rfl)
                  have f65 : a.tmps.getD 65 undef = .pointer (some ⟨wo.heap.size, 5, none⟩) := e65
                  have g65 : a.tmps[65]?.getD undef = .pointer (some ⟨wo.heap.size, 5, none⟩) := by rw [← Array.getD_eq_getD_getElem?]; exact e65
                  have hK := KC.out w2 hC
                  refine op_val (.int .i64 gi) ?_ hC (Below.refl _ _) (by intro d hd; cases hd; exact rfl)
                  (clear hV hI hC; go_simp <;> (first | rfl | simp | (rw [IntKind.wrap_i64]; omega)))
                case o67 =>
                  intro Q a w2 hC hV hI
                  have e6 : a.eval (.tmp 6) = .int .i64 (cn : Int) := (hI 6 (by simp [Op.operands]) (by kernel_rfl)).trans rfl
                  have f6 : a.tmps.getD 6 undef = .int .i64 (cn : Int) := e6
                  have g6 : a.tmps[6]?.getD undef = .int .i64 (cn : Int) := by rw [← Array.getD_eq_getD_getElem?]; exact e6
                  refine op_val (.int .i64 (cn : Int)) ?_ hC (Below.refl _ _) (by intro d hd; cases hd; exact rfl)
                  (clear hV hI hC; go_simp <;> (first | rfl | simp | (rw [IntKind.wrap_i64]; omega)))
                case o68 =>
                  intro Q a w2 hC hV hI
                  have e5 : a.eval (.tmp 5) = .pointer (some ⟨wo.heap.size, 0, none⟩) := (hI 5 (by simp [Op.operands]) (by kernel_rfl)).trans rfl
                  have f5 : a.tmps.getD 5 undef = .pointer (some ⟨wo.heap.size, 0, none⟩) := e5
                  have g5 : a.tmps[5]?.getD undef = .pointer (some ⟨wo.heap.size, 0, none⟩) := by rw [← Array.getD_eq_getD_getElem?]; exact e5
                  refine op_val (.pointer (some ⟨wo.heap.size, 6, none⟩)) ?_ hC (Below.refl _ _) (by intro d hd; cases hd; exact rfl)
                  (clear hV hI hC; go_simp <;> (first | rfl | simp | (rw [IntKind.wrap_i64]; omega)))
                case o69 =>
                  intro Q a w2 hC hV hI
                  have e68 : a.eval (.tmp 68) = .pointer (some ⟨wo.heap.size, 6, none⟩) := hV 68 (by simp [Op.operands]) (by kernel_rfl)
                  have f68 : a.tmps.getD 68 undef = .pointer (some ⟨wo.heap.size, 6, none⟩) := e68
                  have g68 : a.tmps[68]?.getD undef = .pointer (some ⟨wo.heap.size, 6, none⟩) := by rw [← Array.getD_eq_getD_getElem?]; exact e68
                  have hK := KC.out w2 hC
                  refine op_val (.int .i64 t) ?_ hC (Below.refl _ _) (by intro d hd; cases hd; exact rfl)
                  (clear hV hI hC; go_simp <;> (first | rfl | simp | (rw [IntKind.wrap_i64]; omega)))
                case o70 =>
                  intro Q a w2 hC hV hI
                  have e5 : a.eval (.tmp 5) = .pointer (some ⟨wo.heap.size, 0, none⟩) := (hI 5 (by simp [Op.operands]) (by kernel_rfl)).trans rfl
                  have f5 : a.tmps.getD 5 undef = .pointer (some ⟨wo.heap.size, 0, none⟩) := e5
                  have g5 : a.tmps[5]?.getD undef = .pointer (some ⟨wo.heap.size, 0, none⟩) := by rw [← Array.getD_eq_getD_getElem?]; exact e5
                  refine op_val (.pointer (some ⟨wo.heap.size, 1, none⟩)) ?_ hC (Below.refl _ _) (by intro d hd; cases hd; exact rfl)
                  (clear hV hI hC; go_simp <;> (first | rfl | simp | (rw [IntKind.wrap_i64]; omega)))
                case o71 =>
                  intro Q a w2 hC hV hI
                  have e70 : a.eval (.tmp 70) = .pointer (some ⟨wo.heap.size, 1, none⟩) := hV 70 (by simp [Op.operands]) (by kernel_rfl)
                  have f70 : a.tmps.getD 70 undef = .pointer (some ⟨wo.heap.size, 1, none⟩) := e70
                  have g70 : a.tmps[70]?.getD undef = .pointer (some ⟨wo.heap.size, 1, none⟩) := by rw [← Array.getD_eq_getD_getElem?]; exact e70
                  have hK := KC.out w2 hC
                  refine op_val (.string p) ?_ hC (Below.refl _ _) (by intro d hd; cases hd; exact rfl)
                  (clear hV hI hC; go_simp <;> (first | rfl | simp | (rw [IntKind.wrap_i64]; omega)))
                case o72 =>
                  intro Q a w2 hC hV hI
                  have e8 : a.eval (.tmp 8) = .string l := (hI 8 (by simp [Op.operands]) (by kernel_rfl)).trans rfl
                  have f8 : a.tmps.getD 8 undef = .string l := e8
                  have g8 : a.tmps[8]?.getD undef = .string l := by rw [← Array.getD_eq_getD_getElem?]; exact e8
                  refine op_val (.string l) ?_ hC (Below.refl _ _) (by intro d hd; cases hd; exact rfl)
                  (clear hV hI hC; go_simp <;> (first | rfl | simp | (rw [IntKind.wrap_i64]; omega)))
                case o73 =>
                  intro Q a w2 hC hV hI
                  have e58 : a.eval (.tmp 58) = .int .i64 x := hV 58 (by simp [Op.operands]) (by kernel_rfl)
                  have f58 : a.tmps.getD 58 undef = .int .i64 x := e58
                  have g58 : a.tmps[58]?.getD undef = .int .i64 x := by rw [← Array.getD_eq_getD_getElem?]; exact e58
                  have e62 : a.eval (.tmp 62) = .int .i64 (m + 40960) := hV 62 (by simp [Op.operands]) (by kernel_rfl)
                  have f62 : a.tmps.getD 62 undef = .int .i64 (m + 40960) := e62
                  have g62 : a.tmps[62]?.getD undef = .int .i64 (m + 40960) := by rw [← Array.getD_eq_getD_getElem?]; exact e62
                  have e64 : a.eval (.tmp 64) = .int .i64 u1 := hV 64 (by simp [Op.operands]) (by kernel_rfl)
                  have f64 : a.tmps.getD 64 undef = .int .i64 u1 := e64
                  have g64 : a.tmps[64]?.getD undef = .int .i64 u1 := by rw [← Array.getD_eq_getD_getElem?]; exact e64
                  have e66 : a.eval (.tmp 66) = .int .i64 gi := hV 66 (by simp [Op.operands]) (by kernel_rfl)
                  have f66 : a.tmps.getD 66 undef = .int .i64 gi := e66
                  have g66 : a.tmps[66]?.getD undef = .int .i64 gi := by rw [← Array.getD_eq_getD_getElem?]; exact e66
                  have e67 : a.eval (.tmp 67) = .int .i64 (cn : Int) := hV 67 (by simp [Op.operands]) (by kernel_rfl)
                  have f67 : a.tmps.getD 67 undef = .int .i64 (cn : Int) := e67
                  have g67 : a.tmps[67]?.getD undef = .int .i64 (cn : Int) := by rw [← Array.getD_eq_getD_getElem?]; exact e67
                  have e69 : a.eval (.tmp 69) = .int .i64 t := hV 69 (by simp [Op.operands]) (by kernel_rfl)
                  have f69 : a.tmps.getD 69 undef = .int .i64 t := e69
                  have g69 : a.tmps[69]?.getD undef = .int .i64 t := by rw [← Array.getD_eq_getD_getElem?]; exact e69
                  have e71 : a.eval (.tmp 71) = .string p := hV 71 (by simp [Op.operands]) (by kernel_rfl)
                  have f71 : a.tmps.getD 71 undef = .string p := e71
                  have g71 : a.tmps[71]?.getD undef = .string p := by rw [← Array.getD_eq_getD_getElem?]; exact e71
                  have e72 : a.eval (.tmp 72) = .string l := hV 72 (by simp [Op.operands]) (by kernel_rfl)
                  have f72 : a.tmps.getD 72 undef = .string l := e72
                  have g72 : a.tmps[72]?.getD undef = .string l := by rw [← Array.getD_eq_getD_getElem?]; exact e72
                  refine op_val (.agg #[.int .i64 x, .int .i64 (m + 40960), .int .i64 u1, .int .i64 gi, .int .i64 (cn : Int), .int .i64 t, .string p, .string l]) ?_ hC (Below.refl _ _) (by intro d hd; cases hd; exact rfl)
                  (clear hV hI hC; go_simp <;> (first | rfl | simp | (rw [IntKind.wrap_i64]; omega)))
                case o74 =>
                  intro Q a w2 hC hV hI
                  have e73 : a.eval (.tmp 73) = .agg #[.int .i64 x, .int .i64 (m + 40960), .int .i64 u1, .int .i64 gi, .int .i64 (cn : Int), .int .i64 t, .string p, .string l] := hV 73 (by simp [Op.operands]) (by kernel_rfl)
                  have f73 : a.tmps.getD 73 undef = .agg #[.int .i64 x, .int .i64 (m + 40960), .int .i64 u1, .int .i64 gi, .int .i64 (cn : Int), .int .i64 t, .string p, .string l] := e73
                  have g73 : a.tmps[73]?.getD undef = .agg #[.int .i64 x, .int .i64 (m + 40960), .int .i64 u1, .int .i64 gi, .int .i64 (cn : Int), .int .i64 t, .string p, .string l] := by rw [← Array.getD_eq_getD_getElem?]; exact e73
                  refine op_val (.slice (some ⟨w2.heap.size, 0, none⟩) 1 1) (w' := w2.alloc (.cells #[.int .i64 x, .int .i64 (m + 40960), .int .i64 u1, .int .i64 gi, .int .i64 (cn : Int), .int .i64 t, .string p, .string l] 44)) ?_ (hC.alloc hC.size _) ((Below.refl _ _).alloc (Nat.le_refl _) _) ?_
                  · (clear hV hI hC; go_simp <;> (first | rfl | simp | (rw [IntKind.wrap_i64]; omega)))
                  · intro d hd; cases hd; exact ⟨w2.heap.size, rfl, hC.size, heap_lastG _ _⟩
              case hend =>
                intro f w6 hC hall
                simp only [List.take_succ_cons, List.take_zero, List.drop_succ_cons, List.drop_zero] at hall ⊢
                simp only [List.forall_mem_cons] at hall
                obtain ⟨h55, h56, h57, h58, h59, h60, h61, h62, h63, h64, h65, h66, h67, h68, h69, h70, h71, h72, h73, h74, _⟩ := hall
                replace h55 : f 55 = .slice (some ⟨go, 0, none⟩) D.length co := h55 55 rfl
                replace h56 : f 56 = .slice (some ⟨g, 0, none⟩) j cap := h56 56 rfl
                replace h57 : f 57 = .int .i64 (i : Int) := h57 57 rfl
                replace h58 : f 58 = .int .i64 x := h58 58 rfl
                replace h59 : f 59 = .pointer (some ⟨wo.heap.size, 3, none⟩) := h59 59 rfl
                replace h60 : f 60 = .int .i64 m := h60 60 rfl
                replace h61 : f 61 = .int .i64 40960 := h61 61 rfl
                replace h62 : f 62 = .int .i64 (m + 40960) := h62 62 rfl
                replace h63 : f 63 = .pointer (some ⟨wo.heap.size, 4, none⟩) := h63 63 rfl
                replace h64 : f 64 = .int .i64 u1 := h64 64 rfl
                replace h65 : f 65 = .pointer (some ⟨wo.heap.size, 5, none⟩) := h65 65 rfl
                replace h66 : f 66 = .int .i64 gi := h66 66 rfl
                replace h67 : f 67 = .int .i64 (cn : Int) := h67 67 rfl
                replace h68 : f 68 = .pointer (some ⟨wo.heap.size, 6, none⟩) := h68 68 rfl
                replace h69 : f 69 = .int .i64 t := h69 69 rfl
                replace h70 : f 70 = .pointer (some ⟨wo.heap.size, 1, none⟩) := h70 70 rfl
                replace h71 : f 71 = .string p := h71 71 rfl
                replace h72 : f 72 = .string l := h72 72 rfl
                replace h73 : f 73 = .agg #[.int .i64 x, .int .i64 (m + 40960), .int .i64 u1, .int .i64 gi, .int .i64 (cn : Int), .int .i64 t, .string p, .string l] := h73 73 rfl
                obtain ⟨G74, hG74, hGB74, hGO74⟩ : ∃ G, f 74 = .slice (some ⟨G, 0, none⟩) 1 1 ∧ w5.heap.size ≤ G ∧ w6.heap[G]? = some (.cells #[.int .i64 x, .int .i64 (m + 40960), .int .i64 u1, .int .i64 gi, .int .i64 (cn : Int), .int .i64 t, .string p, .string l] 44 (0, 0)) := h74 74 rfl
                simp only [putAll, Act.put, List.setIfInBounds_toArray, List.set_cons_succ, List.set_cons_zero, h55, h56, h57, h58, h59, h60, h61, h62, h63, h64, h65, h66, h67, h68, h69, h70, h71, h72, h73, hG74]
                clear h55 h56 h57 h58 h59 h60 h61 h62 h63 h64 h65 h66 h67 h68 h69 h70 h71 h72 h73 hG74 h74
                replace O := Lib.hid (O.out.keep hC)
                replace B := Lib.hid (btE B.out hC)
                have OW := Lib.hid O.out.1
                have hsz6 := B.out.size
                go_wp2_with (at_builtin; refine wpList_append_own _ rfl _ _ 38 rfl w.heap.size 44 i0 (.agg #[.int .i64 0, .int .i64 0, .int .i64 0, .int .i64 0, .int .i64 0, .int .i64 0, .string ⟨#[]⟩, .string ⟨#[]⟩]) 8 80 Tryz.underlying38 hi0 hz0 hz1 hz2 rfl (by decide) _ D.length (valsC D) rfl ?c0k2 ⟨G74, 0, none⟩ 1 1 (valsC [⟨x, m + 40960, u1, gi, (cn : Int), t, p, l⟩]) rfl (valsC_len _) ?c1k2 ?c2k2 ?c3k2 ?c4k2 ?c5k2 ?_)
                case c0k2 => exact OW.out
                case c1k2 => exact row_card hGO74
                case c2k2 => exact valsC_onecell _
                any_goals (first | (simp only [maxLen]; omega) | omega | (simp; omega))
                intro v' w7 hown hgrow hnil
                have O7 : Hid (OwnC w7 w.heap.size v' (cardsTo L (i + 1))) := Lib.hid (by rw [HC3.out]; exact own_appC hown rfl rfl hnil)
                have B7 : Hid (Below w.heap.size w w7) := Lib.hid (B.out.grown hgrow B.out.size (fun b hb => (World.ownsRow.lt OW.out b hb).1))
                clear hown hgrow hnil O B OW KC HI3 X R hC
                go_wp2_with fail
                go_roundw
                case rel => exact ⟨i + 1, by go_num, by omega, O7.out, B7.out⟩
                case measure => simp [intOf]; omega
            · subst h
              have HC3 : Hid (cardsTo L (i + 1) = D ++ [⟨x, m + 32768, u1, gi, (cn : Int), t, p, b⟩]) := Lib.hid (by rw [HC2.out]; rfl)
              clear HC2
              go_upto_region 20 with fail
              generalize hw5 : World.alloc wr _ = w5
              have NB : Below wr.heap.size wr w5 := by rw [← hw5]; exact (Below.refl _ _).alloc (Nat.le_refl _) _
              clear hw5 d0 d1 d2 d3 d4 d5 d6 d7 d8 d9
              replace O := Lib.hid (O.out.keep NB)
              replace X := Lib.hid (X.out.below NB zX)
              replace R := Lib.hid (R.out.below NB (by omega))
              replace B := Lib.hid (btE B.out NB)
              have hsz5 := B.out.size
              have zX5 := X.out.lt
              have zg5 : g < w5.heap.size := by omega
              clear NB
              have KC : Hid (∀ w', Below w5.heap.size w5 w' → w'.cell? ⟨wo.heap.size, 1, none⟩ = some (.string p) ∧ w'.cell? ⟨wo.heap.size, 3, none⟩ = some (.int .i64 m) ∧ w'.cell? ⟨wo.heap.size, 4, none⟩ = some (.int .i64 u1) ∧ w'.cell? ⟨wo.heap.size, 5, none⟩ = some (.int .i64 gi) ∧ w'.cell? ⟨wo.heap.size, 6, none⟩ = some (.int .i64 t)) := Lib.hid (fun w' hb => by
                obtain ⟨d0, d1, d2, d3, d4, d5, d6, d7, d8, d9⟩ := (X.out.below hb zX5).at.zero
                exact ⟨d1, d3, d4, d5, d6⟩)
              have HI3 := Lib.hid (fun w' (hb : Below w5.heap.size w5 w') => HI2.out w' (Nat.lt_of_lt_of_le zg5 hb.size) (R.out.below hb zg5))
              clear HI2
              refine wp_region_cut 20 (by kernel_rfl) (fun w' => Below w5.heap.size w5 w') (fun x y => Below x.heap.size x y) (vSlG 74 44 w5.heap.size #[.int .i64 x, .int .i64 (m + 32768), .int .i64 u1, .int .i64 gi, .int .i64 (cn : Int), .int .i64 t, .string p, .string b] (fun d v => match d with | 55 => v = .slice (some ⟨go, 0, none⟩) D.length co | 56 => v = .slice (some ⟨g, 0, none⟩) j cap | 57 => v = .int .i64 (i : Int) | 58 => v = .int .i64 x | 59 => v = .pointer (some ⟨wo.heap.size, 3, none⟩) | 60 => v = .int .i64 m | 61 => v = .int .i64 32768 | 62 => v = .int .i64 (m + 32768) | 63 => v = .pointer (some ⟨wo.heap.size, 4, none⟩) | 64 => v = .int .i64 u1 | 65 => v = .pointer (some ⟨wo.heap.size, 5, none⟩) | 66 => v = .int .i64 gi | 67 => v = .int .i64 (cn : Int) | 68 => v = .pointer (some ⟨wo.heap.size, 6, none⟩) | 69 => v = .int .i64 t | 70 => v = .pointer (some ⟨wo.heap.size, 1, none⟩) | 71 => v = .string p | 72 => v = .string b | 73 => v = .agg #[.int .i64 x, .int .i64 (m + 32768), .int .i64 u1, .int .i64 gi, .int .i64 (cn : Int), .int .i64 t, .string p, .string b] | _ => True)) (by kernel_rfl) (by kernel_rfl) ((Below.refl _ _).drew) (vSlG_keep _ _ _ _ _) (by simp) ?hops ?hend
              case hops =>
                simp only [List.take_succ_cons, List.take_zero, List.forall_mem_cons]
                refine ⟨?o55, ?o56, ?o57, ?o58, ?o59, ?o60, ?o61, ?o62, ?o63, ?o64, ?o65, ?o66, ?o67, ?o68, ?o69, ?o70, ?o71, ?o72, ?o73, ?o74, fun _ h => by cases h⟩
                case o55 =>
                  intro Q a w2 hC hV hI
                  have e3 : a.eval (.tmp 3) = .slice (some ⟨go, 0, none⟩) D.length co := (hI 3 (by simp [Op.operands]) (by kernel_rfl)).trans rfl
                  have f3 : a.tmps.getD 3 undef = .slice (some ⟨go, 0, none⟩) D.length co := e3
                  have g3 : a.tmps[3]?.getD undef = .slice (some ⟨go, 0, none⟩) D.length co := by rw [← Array.getD_eq_getD_getElem?]; exact e3
                  refine op_val (.slice (some ⟨go, 0, none⟩) D.length co) ?_ hC (Below.refl _ _) (by intro d hd; cases hd; exact rfl)
                  (clear hV hI hC; go_simp <;> (first | rfl | simp | (rw [IntKind.wrap_i64]; omega)))
                case o56 =>
                  intro Q a w2 hC hV hI
                  have e0 : a.eval (.tmp 0) = .slice (some ⟨g, 0, none⟩) j cap := (hI 0 (by simp [Op.operands]) (by kernel_rfl)).trans rfl
                  have f0 : a.tmps.getD 0 undef = .slice (some ⟨g, 0, none⟩) j cap := e0
                  have g0 : a.tmps[0]?.getD undef = .slice (some ⟨g, 0, none⟩) j cap := by rw [← Array.getD_eq_getD_getElem?]; exact e0
                  refine op_val (.slice (some ⟨g, 0, none⟩) j cap) ?_ hC (Below.refl _ _) (by intro d hd; cases hd; exact rfl)
                  (clear hV hI hC; go_simp <;> (first | rfl | simp | (rw [IntKind.wrap_i64]; omega)))
                case o57 =>
                  intro Q a w2 hC hV hI
                  have e4 : a.eval (.tmp 4) = .int .i64 (i : Int) := (hI 4 (by simp [Op.operands]) (by kernel_rfl)).trans rfl
                  have f4 : a.tmps.getD 4 undef = .int .i64 (i : Int) := e4
                  have g4 : a.tmps[4]?.getD undef = .int .i64 (i : Int) := by rw [← Array.getD_eq_getD_getElem?]; exact e4
                  refine op_val (.int .i64 (i : Int)) ?_ hC (Below.refl _ _) (by intro d hd; cases hd; exact rfl)
                  (clear hV hI hC; go_simp <;> (first | rfl | simp | (rw [IntKind.wrap_i64]; omega)))
                case o58 =>
                  intro Q a w2 hC hV hI
                  have e56 : a.eval (.tmp 56) = .slice (some ⟨g, 0, none⟩) j cap := hV 56 (by simp [Op.operands, Call.operands]) (by kernel_rfl)
                  have f56 : a.tmps.getD 56 undef = .slice (some ⟨g, 0, none⟩) j cap := e56
                  have g56 : a.tmps[56]?.getD undef = .slice (some ⟨g, 0, none⟩) j cap := by rw [← Array.getD_eq_getD_getElem?]; exact e56
                  have e57 : a.eval (.tmp 57) = .int .i64 (i : Int) := hV 57 (by simp [Op.operands, Call.operands]) (by kernel_rfl)
                  have f57 : a.tmps.getD 57 undef = .int .i64 (i : Int) := e57
                  have g57 : a.tmps[57]?.getD undef = .int .i64 (i : Int) := by rw [← Array.getD_eq_getD_getElem?]; exact e57
                  refine op_call (f := 32) (args := #[.slice (some ⟨g, 0, none⟩) j cap, .int .i64 (i : Int)]) (R := fun v y => v = .int .i64 x ∧ Below w2.heap.size w2 y) ?_ ((HI3.out w2 hC).mono ?_) ?_
                  · (clear hV hI hC; go_simp <;> (first | rfl | simp | (rw [IntKind.wrap_i64]; omega)))
                  · rintro e y ⟨rfl, hb⟩; exact ⟨_, rfl, rfl, hb⟩
                  · rintro v y ⟨rfl, hb⟩; exact ⟨hC.trans (hb.mono hC.size), hb, by intro d hd; cases hd; exact rfl⟩
                case o59 =>
                  intro Q a w2 hC hV hI
                  have e5 : a.eval (.tmp 5) = .pointer (some ⟨wo.heap.size, 0, none⟩) := (hI 5 (by simp [Op.operands]) (by kernel_rfl)).trans rfl
                  have f5 : a.tmps.getD 5 undef = .pointer (some ⟨wo.heap.size, 0, none⟩) := e5
                  have g5 : a.tmps[5]?.getD undef = .pointer (some ⟨wo.heap.size, 0, none⟩) := by rw [← Array.getD_eq_getD_getElem?]; exact e5
                  refine op_val (.pointer (some ⟨wo.heap.size, 3, none⟩)) ?_ hC (Below.refl _ _) (by intro d hd; cases hd; exact rfl)
                  (clear hV hI hC; go_simp <;> (first | rfl | simp | (rw [IntKind.wrap_i64]; omega)))
                case o60 =>
                  intro Q a w2 hC hV hI
                  have e59 : a.eval (.tmp 59) = .pointer (some ⟨wo.heap.size, 3, none⟩) := hV 59 (by simp [Op.operands]) (by kernel_rfl)
                  have f59 : a.tmps.getD 59 undef = .pointer (some ⟨wo.heap.size, 3, none⟩) := e59
                  have g59 : a.tmps[59]?.getD undef = .pointer (some ⟨wo.heap.size, 3, none⟩) := by rw [← Array.getD_eq_getD_getElem?]; exact e59
                  have hK := KC.out w2 hC
                  refine op_val (.int .i64 m) ?_ hC (Below.refl _ _) (by intro d hd; cases hd; exact rfl)
                  (clear hV hI hC; go_simp <;> (first | rfl | simp | (rw [IntKind.wrap_i64]; omega)))
                case o61 =>
                  intro Q a w2 hC hV hI
                  have e9 : a.eval (.tmp 9) = .int .i64 32768 := (hI 9 (by simp [Op.operands]) (by kernel_rfl)).trans rfl
                  have f9 : a.tmps.getD 9 undef = .int .i64 32768 := e9
                  have g9 : a.tmps[9]?.getD undef = .int .i64 32768 := by rw [← Array.getD_eq_getD_getElem?]; exact e9
                  refine op_val (.int .i64 32768) ?_ hC (Below.refl _ _) (by intro d hd; cases hd; exact rfl)
                  (clear hV hI hC; go_simp <;> (first | rfl | simp | (rw [IntKind.wrap_i64]; omega)))
                case o62 =>
                  intro Q a w2 hC hV hI
                  have e60 : a.eval (.tmp 60) = .int .i64 m := hV 60 (by simp [Op.operands]) (by kernel_rfl)
                  have f60 : a.tmps.getD 60 undef = .int .i64 m := e60
                  have g60 : a.tmps[60]?.getD undef = .int .i64 m := by rw [← Array.getD_eq_getD_getElem?]; exact e60
                  have e61 : a.eval (.tmp 61) = .int .i64 32768 := hV 61 (by simp [Op.operands]) (by kernel_rfl)
                  have f61 : a.tmps.getD 61 undef = .int .i64 32768 := e61
                  have g61 : a.tmps[61]?.getD undef = .int .i64 32768 := by rw [← Array.getD_eq_getD_getElem?]; exact e61
                  have q9 := add_i64 (P := Tryz.prog) (a := m) (b := 32768) w2 3 (by omega) (by omega)
                  refine op_val (.int .i64 (m + 32768)) ?_ hC (Below.refl _ _) (by intro d hd; cases hd; exact rfl)
                  (clear hV hI hC; go_simp <;> (first | rfl | simp | (rw [IntKind.wrap_i64]; omega)))
                case o63 =>
                  intro Q a w2 hC hV hI
                  have e5 : a.eval (.tmp 5) = .pointer (some ⟨wo.heap.size, 0, none⟩) := (hI 5 (by simp [Op.operands]) (by kernel_rfl)).trans rfl
                  have f5 : a.tmps.getD 5 undef = .pointer (some ⟨wo.heap.size, 0, none⟩) := e5
                  have g5 : a.tmps[5]?.getD undef = .pointer (some ⟨wo.heap.size, 0, none⟩) := by rw [← Array.getD_eq_getD_getElem?]; exact e5
                  refine op_val (.pointer (some ⟨wo.heap.size, 4, none⟩)) ?_ hC (Below.refl _ _) (by intro d hd; cases hd; exact rfl)
                  (clear hV hI hC; go_simp <;> (first | rfl | simp | (rw [IntKind.wrap_i64]; omega)))
                case o64 =>
                  intro Q a w2 hC hV hI
                  have e63 : a.eval (.tmp 63) = .pointer (some ⟨wo.heap.size, 4, none⟩) := hV 63 (by simp [Op.operands]) (by kernel_rfl)
                  have f63 : a.tmps.getD 63 undef = .pointer (some ⟨wo.heap.size, 4, none⟩) := e63
                  have g63 : a.tmps[63]?.getD undef = .pointer (some ⟨wo.heap.size, 4, none⟩) := by rw [← Array.getD_eq_getD_getElem?]; exact e63
                  have hK := KC.out w2 hC
                  refine op_val (.int .i64 u1) ?_ hC (Below.refl _ _) (by intro d hd; cases hd; exact rfl)
                  (clear hV hI hC; go_simp <;> (first | rfl | simp | (rw [IntKind.wrap_i64]; omega)))
                case o65 =>
                  intro Q a w2 hC hV hI
                  have e5 : a.eval (.tmp 5) = .pointer (some ⟨wo.heap.size, 0, none⟩) := (hI 5 (by simp [Op.operands]) (by kernel_rfl)).trans rfl
                  have f5 : a.tmps.getD 5 undef = .pointer (some ⟨wo.heap.size, 0, none⟩) := e5
                  have g5 : a.tmps[5]?.getD undef = .pointer (some ⟨wo.heap.size, 0, none⟩) := by rw [← Array.getD_eq_getD_getElem?]; exact e5
                  refine op_val (.pointer (some ⟨wo.heap.size, 5, none⟩)) ?_ hC (Below.refl _ _) (by intro d hd; cases hd; exact rfl)
                  (clear hV hI hC; go_simp <;> (first | rfl | simp | (rw [IntKind.wrap_i64]; omega)))
                case o66 =>
                  intro Q a w2 hC hV hI
                  have e65 : a.eval (.tmp 65) = .pointer (some ⟨wo.heap.size, 5, none⟩) := hV 65 (by simp [Op.operands]) (by kernel_rfl)
                  have f65 : a.tmps.getD 65 undef = .pointer (some ⟨wo.heap.size, 5, none⟩) := e65
                  have g65 : a.tmps[65]?.getD undef = .pointer (some ⟨wo.heap.size, 5, none⟩) := by rw [← Array.getD_eq_getD_getElem?]; exact e65
                  have hK := KC.out w2 hC
                  refine op_val (.int .i64 gi) ?_ hC (Below.refl _ _) (by intro d hd; cases hd; exact rfl)
                  (clear hV hI hC; go_simp <;> (first | rfl | simp | (rw [IntKind.wrap_i64]; omega)))
                case o67 =>
                  intro Q a w2 hC hV hI
                  have e6 : a.eval (.tmp 6) = .int .i64 (cn : Int) := (hI 6 (by simp [Op.operands]) (by kernel_rfl)).trans rfl
                  have f6 : a.tmps.getD 6 undef = .int .i64 (cn : Int) := e6
                  have g6 : a.tmps[6]?.getD undef = .int .i64 (cn : Int) := by rw [← Array.getD_eq_getD_getElem?]; exact e6
                  refine op_val (.int .i64 (cn : Int)) ?_ hC (Below.refl _ _) (by intro d hd; cases hd; exact rfl)
                  (clear hV hI hC; go_simp <;> (first | rfl | simp | (rw [IntKind.wrap_i64]; omega)))
                case o68 =>
                  intro Q a w2 hC hV hI
                  have e5 : a.eval (.tmp 5) = .pointer (some ⟨wo.heap.size, 0, none⟩) := (hI 5 (by simp [Op.operands]) (by kernel_rfl)).trans rfl
                  have f5 : a.tmps.getD 5 undef = .pointer (some ⟨wo.heap.size, 0, none⟩) := e5
                  have g5 : a.tmps[5]?.getD undef = .pointer (some ⟨wo.heap.size, 0, none⟩) := by rw [← Array.getD_eq_getD_getElem?]; exact e5
                  refine op_val (.pointer (some ⟨wo.heap.size, 6, none⟩)) ?_ hC (Below.refl _ _) (by intro d hd; cases hd; exact rfl)
                  (clear hV hI hC; go_simp <;> (first | rfl | simp | (rw [IntKind.wrap_i64]; omega)))
                case o69 =>
                  intro Q a w2 hC hV hI
                  have e68 : a.eval (.tmp 68) = .pointer (some ⟨wo.heap.size, 6, none⟩) := hV 68 (by simp [Op.operands]) (by kernel_rfl)
                  have f68 : a.tmps.getD 68 undef = .pointer (some ⟨wo.heap.size, 6, none⟩) := e68
                  have g68 : a.tmps[68]?.getD undef = .pointer (some ⟨wo.heap.size, 6, none⟩) := by rw [← Array.getD_eq_getD_getElem?]; exact e68
                  have hK := KC.out w2 hC
                  refine op_val (.int .i64 t) ?_ hC (Below.refl _ _) (by intro d hd; cases hd; exact rfl)
                  (clear hV hI hC; go_simp <;> (first | rfl | simp | (rw [IntKind.wrap_i64]; omega)))
                case o70 =>
                  intro Q a w2 hC hV hI
                  have e5 : a.eval (.tmp 5) = .pointer (some ⟨wo.heap.size, 0, none⟩) := (hI 5 (by simp [Op.operands]) (by kernel_rfl)).trans rfl
                  have f5 : a.tmps.getD 5 undef = .pointer (some ⟨wo.heap.size, 0, none⟩) := e5
                  have g5 : a.tmps[5]?.getD undef = .pointer (some ⟨wo.heap.size, 0, none⟩) := by rw [← Array.getD_eq_getD_getElem?]; exact e5
                  refine op_val (.pointer (some ⟨wo.heap.size, 1, none⟩)) ?_ hC (Below.refl _ _) (by intro d hd; cases hd; exact rfl)
                  (clear hV hI hC; go_simp <;> (first | rfl | simp | (rw [IntKind.wrap_i64]; omega)))
                case o71 =>
                  intro Q a w2 hC hV hI
                  have e70 : a.eval (.tmp 70) = .pointer (some ⟨wo.heap.size, 1, none⟩) := hV 70 (by simp [Op.operands]) (by kernel_rfl)
                  have f70 : a.tmps.getD 70 undef = .pointer (some ⟨wo.heap.size, 1, none⟩) := e70
                  have g70 : a.tmps[70]?.getD undef = .pointer (some ⟨wo.heap.size, 1, none⟩) := by rw [← Array.getD_eq_getD_getElem?]; exact e70
                  have hK := KC.out w2 hC
                  refine op_val (.string p) ?_ hC (Below.refl _ _) (by intro d hd; cases hd; exact rfl)
                  (clear hV hI hC; go_simp <;> (first | rfl | simp | (rw [IntKind.wrap_i64]; omega)))
                case o72 =>
                  intro Q a w2 hC hV hI
                  have e8 : a.eval (.tmp 8) = .string b := (hI 8 (by simp [Op.operands]) (by kernel_rfl)).trans rfl
                  have f8 : a.tmps.getD 8 undef = .string b := e8
                  have g8 : a.tmps[8]?.getD undef = .string b := by rw [← Array.getD_eq_getD_getElem?]; exact e8
                  refine op_val (.string b) ?_ hC (Below.refl _ _) (by intro d hd; cases hd; exact rfl)
                  (clear hV hI hC; go_simp <;> (first | rfl | simp | (rw [IntKind.wrap_i64]; omega)))
                case o73 =>
                  intro Q a w2 hC hV hI
                  have e58 : a.eval (.tmp 58) = .int .i64 x := hV 58 (by simp [Op.operands]) (by kernel_rfl)
                  have f58 : a.tmps.getD 58 undef = .int .i64 x := e58
                  have g58 : a.tmps[58]?.getD undef = .int .i64 x := by rw [← Array.getD_eq_getD_getElem?]; exact e58
                  have e62 : a.eval (.tmp 62) = .int .i64 (m + 32768) := hV 62 (by simp [Op.operands]) (by kernel_rfl)
                  have f62 : a.tmps.getD 62 undef = .int .i64 (m + 32768) := e62
                  have g62 : a.tmps[62]?.getD undef = .int .i64 (m + 32768) := by rw [← Array.getD_eq_getD_getElem?]; exact e62
                  have e64 : a.eval (.tmp 64) = .int .i64 u1 := hV 64 (by simp [Op.operands]) (by kernel_rfl)
                  have f64 : a.tmps.getD 64 undef = .int .i64 u1 := e64
                  have g64 : a.tmps[64]?.getD undef = .int .i64 u1 := by rw [← Array.getD_eq_getD_getElem?]; exact e64
                  have e66 : a.eval (.tmp 66) = .int .i64 gi := hV 66 (by simp [Op.operands]) (by kernel_rfl)
                  have f66 : a.tmps.getD 66 undef = .int .i64 gi := e66
                  have g66 : a.tmps[66]?.getD undef = .int .i64 gi := by rw [← Array.getD_eq_getD_getElem?]; exact e66
                  have e67 : a.eval (.tmp 67) = .int .i64 (cn : Int) := hV 67 (by simp [Op.operands]) (by kernel_rfl)
                  have f67 : a.tmps.getD 67 undef = .int .i64 (cn : Int) := e67
                  have g67 : a.tmps[67]?.getD undef = .int .i64 (cn : Int) := by rw [← Array.getD_eq_getD_getElem?]; exact e67
                  have e69 : a.eval (.tmp 69) = .int .i64 t := hV 69 (by simp [Op.operands]) (by kernel_rfl)
                  have f69 : a.tmps.getD 69 undef = .int .i64 t := e69
                  have g69 : a.tmps[69]?.getD undef = .int .i64 t := by rw [← Array.getD_eq_getD_getElem?]; exact e69
                  have e71 : a.eval (.tmp 71) = .string p := hV 71 (by simp [Op.operands]) (by kernel_rfl)
                  have f71 : a.tmps.getD 71 undef = .string p := e71
                  have g71 : a.tmps[71]?.getD undef = .string p := by rw [← Array.getD_eq_getD_getElem?]; exact e71
                  have e72 : a.eval (.tmp 72) = .string b := hV 72 (by simp [Op.operands]) (by kernel_rfl)
                  have f72 : a.tmps.getD 72 undef = .string b := e72
                  have g72 : a.tmps[72]?.getD undef = .string b := by rw [← Array.getD_eq_getD_getElem?]; exact e72
                  refine op_val (.agg #[.int .i64 x, .int .i64 (m + 32768), .int .i64 u1, .int .i64 gi, .int .i64 (cn : Int), .int .i64 t, .string p, .string b]) ?_ hC (Below.refl _ _) (by intro d hd; cases hd; exact rfl)
                  (clear hV hI hC; go_simp <;> (first | rfl | simp | (rw [IntKind.wrap_i64]; omega)))
                case o74 =>
                  intro Q a w2 hC hV hI
                  have e73 : a.eval (.tmp 73) = .agg #[.int .i64 x, .int .i64 (m + 32768), .int .i64 u1, .int .i64 gi, .int .i64 (cn : Int), .int .i64 t, .string p, .string b] := hV 73 (by simp [Op.operands]) (by kernel_rfl)
                  have f73 : a.tmps.getD 73 undef = .agg #[.int .i64 x, .int .i64 (m + 32768), .int .i64 u1, .int .i64 gi, .int .i64 (cn : Int), .int .i64 t, .string p, .string b] := e73
                  have g73 : a.tmps[73]?.getD undef = .agg #[.int .i64 x, .int .i64 (m + 32768), .int .i64 u1, .int .i64 gi, .int .i64 (cn : Int), .int .i64 t, .string p, .string b] := by rw [← Array.getD_eq_getD_getElem?]; exact e73
                  refine op_val (.slice (some ⟨w2.heap.size, 0, none⟩) 1 1) (w' := w2.alloc (.cells #[.int .i64 x, .int .i64 (m + 32768), .int .i64 u1, .int .i64 gi, .int .i64 (cn : Int), .int .i64 t, .string p, .string b] 44)) ?_ (hC.alloc hC.size _) ((Below.refl _ _).alloc (Nat.le_refl _) _) ?_
                  · (clear hV hI hC; go_simp <;> (first | rfl | simp | (rw [IntKind.wrap_i64]; omega)))
                  · intro d hd; cases hd; exact ⟨w2.heap.size, rfl, hC.size, heap_lastG _ _⟩
              case hend =>
                intro f w6 hC hall
                simp only [List.take_succ_cons, List.take_zero, List.drop_succ_cons, List.drop_zero] at hall ⊢
                simp only [List.forall_mem_cons] at hall
                obtain ⟨h55, h56, h57, h58, h59, h60, h61, h62, h63, h64, h65, h66, h67, h68, h69, h70, h71, h72, h73, h74, _⟩ := hall
                replace h55 : f 55 = .slice (some ⟨go, 0, none⟩) D.length co := h55 55 rfl
                replace h56 : f 56 = .slice (some ⟨g, 0, none⟩) j cap := h56 56 rfl
                replace h57 : f 57 = .int .i64 (i : Int) := h57 57 rfl
                replace h58 : f 58 = .int .i64 x := h58 58 rfl
                replace h59 : f 59 = .pointer (some ⟨wo.heap.size, 3, none⟩) := h59 59 rfl
                replace h60 : f 60 = .int .i64 m := h60 60 rfl
                replace h61 : f 61 = .int .i64 32768 := h61 61 rfl
                replace h62 : f 62 = .int .i64 (m + 32768) := h62 62 rfl
                replace h63 : f 63 = .pointer (some ⟨wo.heap.size, 4, none⟩) := h63 63 rfl
                replace h64 : f 64 = .int .i64 u1 := h64 64 rfl
                replace h65 : f 65 = .pointer (some ⟨wo.heap.size, 5, none⟩) := h65 65 rfl
                replace h66 : f 66 = .int .i64 gi := h66 66 rfl
                replace h67 : f 67 = .int .i64 (cn : Int) := h67 67 rfl
                replace h68 : f 68 = .pointer (some ⟨wo.heap.size, 6, none⟩) := h68 68 rfl
                replace h69 : f 69 = .int .i64 t := h69 69 rfl
                replace h70 : f 70 = .pointer (some ⟨wo.heap.size, 1, none⟩) := h70 70 rfl
                replace h71 : f 71 = .string p := h71 71 rfl
                replace h72 : f 72 = .string b := h72 72 rfl
                replace h73 : f 73 = .agg #[.int .i64 x, .int .i64 (m + 32768), .int .i64 u1, .int .i64 gi, .int .i64 (cn : Int), .int .i64 t, .string p, .string b] := h73 73 rfl
                obtain ⟨G74, hG74, hGB74, hGO74⟩ : ∃ G, f 74 = .slice (some ⟨G, 0, none⟩) 1 1 ∧ w5.heap.size ≤ G ∧ w6.heap[G]? = some (.cells #[.int .i64 x, .int .i64 (m + 32768), .int .i64 u1, .int .i64 gi, .int .i64 (cn : Int), .int .i64 t, .string p, .string b] 44 (0, 0)) := h74 74 rfl
                simp only [putAll, Act.put, List.setIfInBounds_toArray, List.set_cons_succ, List.set_cons_zero, h55, h56, h57, h58, h59, h60, h61, h62, h63, h64, h65, h66, h67, h68, h69, h70, h71, h72, h73, hG74]
                clear h55 h56 h57 h58 h59 h60 h61 h62 h63 h64 h65 h66 h67 h68 h69 h70 h71 h72 h73 hG74 h74
                replace O := Lib.hid (O.out.keep hC)
                replace B := Lib.hid (btE B.out hC)
                have OW := Lib.hid O.out.1
                have hsz6 := B.out.size
                go_wp2_with (at_builtin; refine wpList_append_own _ rfl _ _ 38 rfl w.heap.size 44 i0 (.agg #[.int .i64 0, .int .i64 0, .int .i64 0, .int .i64 0, .int .i64 0, .int .i64 0, .string ⟨#[]⟩, .string ⟨#[]⟩]) 8 80 Tryz.underlying38 hi0 hz0 hz1 hz2 rfl (by decide) _ D.length (valsC D) rfl ?c0k3 ⟨G74, 0, none⟩ 1 1 (valsC [⟨x, m + 32768, u1, gi, (cn : Int), t, p, b⟩]) rfl (valsC_len _) ?c1k3 ?c2k3 ?c3k3 ?c4k3 ?c5k3 ?_)
                case c0k3 => exact OW.out
                case c1k3 => exact row_card hGO74
                case c2k3 => exact valsC_onecell _
                any_goals (first | (simp only [maxLen]; omega) | omega | (simp; omega))
                intro v' w7 hown hgrow hnil
                have O7 : Hid (OwnC w7 w.heap.size v' (cardsTo L (i + 1))) := Lib.hid (by rw [HC3.out]; exact own_appC hown rfl rfl hnil)
                have B7 : Hid (Below w.heap.size w w7) := Lib.hid (B.out.grown hgrow B.out.size (fun b hb => (World.ownsRow.lt OW.out b hb).1))
                clear hown hgrow hnil O B OW KC HI3 X R hC
                go_wp2_with fail
                go_roundw
                case rel => exact ⟨i + 1, by go_num, by omega, O7.out, B7.out⟩
                case measure => simp [intOf]; omega
      · obtain rfl : i = n := by omega
        have hlt2 : ¬ (i : Int) < (i : Int) := by omega
        rw [← HF.out] at O
        go_wp2_with fail
        go_ret
        exact ⟨_, rfl, O.out, B.out⟩
end Go.Proofs.YtancidbbkoeokaaGreat
