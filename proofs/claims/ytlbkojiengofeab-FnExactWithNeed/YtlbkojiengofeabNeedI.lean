/- Contract of impl.Need (slices.Sort at the end). -/
import Derived.Test.YtlbkojiengofeabNeedS
import Derived.Test.YtlbkojiengofeabShelf
import Derived.Maps.AppendAt
namespace Go.Proofs.Ytlbkojiengofeab
open Go.ChangeShapes Go.WideShapes Go.ChangeAt Go.RowKit Go.Deep Go.Maps Go.Sort

theorem enc_bl (N : List ByteArray) : (N.map bl).map encStr = strVals N := by
  simp only [strVals, List.map_map]
  apply List.map_congr_left
  intro s _
  show Value.string ⟨(bl s).toArray⟩ = Value.string s
  rw [bl, ba_list]
theorem sortS_own (N : List ByteArray) (base gd cd : Nat) (w : World) (hm : N.length ≤ 4194304) (h : OwnL w base (.slice (some ⟨gd, 0, none⟩) N.length cd) N) :
    Calls Try.prog 55 #[.slice (some ⟨gd, 0, none⟩) N.length cd] w fun e w' => e = .returned (.tuple #[]) ∧ (∀ D : List ByteArray, (N.map bl).mergeSort (fun x y => decide (x ≤ y)) = D.map bl → OwnL w' base (.slice (some ⟨gd, 0, none⟩) N.length cd) D) ∧ w.grownBy w' (some gd) := by
  rcases h.1.2 with ⟨h', _⟩ | ⟨g', cap', cur, h', hbase, hblk, h1, h2, h3, h4⟩
  · simp at h'
  · simp at h'
    obtain ⟨rfl, rfl⟩ := h'
    have hl : (N.map bl).length = N.length := by simp
    have hH : Holds encStr w gd 0 (N.map bl).toArray := holds_of_block hblk (by rw [hl, enc_bl]; simpa using h4)
    have hc := Try.slices_Sort_string gd 0 cd (N.map bl) w hH (Array.getElem?_eq_some_iff.1 hblk).1 (by rw [hl]; omega)
    rw [hl] at hc
    refine hc.mono ?_
    rintro e w' ⟨rfl, n, os, rfl⟩
    refine ⟨rfl, fun D hD => ?_, grownBy_sorted _⟩
    have hDl : D.length = N.length := by
      have := congrArg List.length hD
      simpa using this.symm
    have ho := ownsRow_sorted (ss := N.map bl) (ts := (N.map bl).mergeSort fun x y => decide (x ≤ y)) (n := n) (os := os) (by simp) hbase hblk (by rw [hl]; exact h1) h2 h3
    rw [hD, enc_bl, hl] at ho
    rw [hD]
    refine ⟨by rw [hDl]; exact ho, gd, cd, by rw [hDl]⟩
theorem pars_size (s : ByteArray) : ∀ k, k ≤ s.size → ∀ x ∈ parsTo s k, x.size ≤ s.size := by
  intro k
  induction k with
  | zero => intro _ x hx; simp [parsTo] at hx
  | succ k ih =>
    intro hk x hx
    rw [parsTo] at hx
    split at hx
    · rcases List.mem_append.1 hx with hx | hx
      · exact ih (by omega) x hx
      · simp at hx; subst hx; simp; omega
    · exact ih (by omega) x hx
theorem parents_size (s : ByteArray) : ∀ x ∈ parentsv s, x.size ≤ s.size := by
  intro x hx
  rw [parentsv] at hx
  split at hx
  · exact pars_size s _ (Nat.le_refl _) x hx
  · simp at hx
/-- What is known: the paths of L, and those noted so far. -/
def knownT (L : List Ent) (N : List ByteArray) : ByteArray → Bool := fun p => inPaths L p || hasS N p
theorem known_put (L : List Ent) (N : List ByteArray) (d : ByteArray) : putT (knownT L N) d = knownT L (N ++ [d]) := by
  funext p
  simp only [putT, knownT, hasS, List.any_append, List.any_cons, List.any_nil, Bool.or_false]
  have : decide (p = d) = decide (d = p) := by rw [decide_eq_decide]; exact eq_comm
  rw [this]
  cases inPaths L p <;> cases N.any (fun x => decide (x = p)) <;> cases decide (d = p) <;> rfl
theorem known_nil (L : List Ent) : knownT L [] = inPaths L := by funext p; simp [knownT, hasS]
theorem CellsS.grown {w w' : World} {g : Nat} {row : Option Nat} {D : List ByteArray} (h : CellsS w g D) (hg : w.grownBy w' row) (hn : some g ≠ row) : CellsS w' g D := fun k u hu => hg.cell (h k u hu) hn
theorem istep_yes {L : List Ent} {N : List ByteArray} {d : ByteArray} (h : knownT L N d = true) : implStep L N d = N := by rw [implStep]; exact if_pos h
theorem istep_no {L : List Ent} {N : List ByteArray} {d : ByteArray} (h : knownT L N d = false) : implStep L N d = N ++ [d] := by
  rw [implStep, if_neg (by intro e; rw [knownT] at h; rw [h] at e; cases e)]
theorem needIo_len (L : List Ent) (ds : List ByteArray) : (needIo L ds).length ≤ ds.length := by
  have := foldI_len L ds []
  simpa [needIo] using this
theorem SetSAt.more {w : World} {b n m : Nat} {T : ByteArray → Bool} (h : SetSAt w b n T) (hm : n ≤ m) : SetSAt w b m T := by
  obtain ⟨D, ho, hD⟩ := h
  exact ⟨D, ho.mono hm, hD⟩
theorem ownL_ne {w : World} {base b : Nat} {v : Value} {L : List ByteArray} (h : OwnL w base v L) (hb : b < base) : some b ≠ v.ownBlock := by
  obtain ⟨ho, g, cap, rfl⟩ := h
  have := (World.ownsRow.lt ho g rfl).1
  simp only [Value.ownBlock, ne_eq, Option.some.injEq]; omega
theorem own_belowT {w w' : World} {base : Nat} {ty : TypeId} {v : Value} {n : Nat} {xs : List Value} (h : w.ownsRow base ty 1 v n xs) (hb : Below w.heap.size w w') : w'.ownsRow base ty 1 v n xs :=
  World.ownsRow.kept h (row := none) ⟨hb.os, hb.tape, hb.output, hb.size, fun k hk _ => hb.block k hk⟩ (by cases hv : v.ownBlock <;> simp)
set_option maxHeartbeats 3200000 in
set_option maxRecDepth 8000 in
theorem need_impl (L : List Ent) (n g cap : Nat) (w : World) (hn : n = L.length) (hm : n ≤ 1048576) (hg : g < w.heap.size) (hsm : SmallL L) (ht : totL L ≤ 2097152) (h1 : RowE w g L) :
    Calls Try.prog 15 #[.slice (some ⟨g, 0, none⟩) n cap] w fun e w' => ∃ v, e = .returned v ∧ OwnL w' w.heap.size v (needv L) ∧ Below w.heap.size w w' := by
  obtain ⟨i0, hi0, hz0, hz1, hz2⟩ := info_parts Try.info9
  have H1 := Lib.hid h1
  have HG : Hid (∀ i, i < n → ∃ e, L[i]? = some e ∧ e.path.size ≤ 4194304) := Lib.hid (fun i hi => by obtain ⟨e, he⟩ := getE' (L := L) (i := i) (by omega); exact ⟨e, he, (small_parts (hsm.get he)).1⟩)
  have HPa := Lib.hid (pathsOf_impl L n g cap w hn (by omega) hg hsm h1)
  have HD : Hid (((needIo L (candsTo L n)).map bl).mergeSort (fun x y => decide (x ≤ y)) = (needv L).map bl) := Lib.hid (by rw [hn]; exact need_sorted L (candsTo L L.length))
  have HT : Hid (∀ (i : Nat) (e : Ent), L[i]? = some e → (candsTo L i).length + (parentsv e.path).length ≤ 2097152 ∧ ∀ x ∈ parentsv e.path, x.size ≤ e.path.size) := Lib.hid (fun i e he => ⟨by have h2 := cands_tot L i he; omega, parents_size _⟩)
  have HLn : Hid (∀ ds, (needIo L ds).length ≤ ds.length) := Lib.hid (needIo_len L)
  have HLf : Hid ((needIo L (candsTo L n)).length ≤ 2097152) := Lib.hid (by
    have h1 := needIo_len L (candsTo L n)
    have h2 := cands_len L n
    have h3 := totL_take L n
    simp only [totL] at h3 ht
    omega)
  have HZ : Hid (candsTo L 0 = []) := Lib.hid (by simp [candsTo])
  generalize needv L = r at HD
  clear h1 hn hsm ht
  go_enter Try.func15, Try.ntmps15
  go_wp2_with fail
  refine HPa.out.mono ?_
  rintro e w0 ⟨rfl, hset, hb⟩
  have z0 := hset.lt
  have S0 : Hid (SetSAt (w0.alloc (.cells #[] 9)) w.heap.size (n + 0) (knownT L (needIo L []))) := Lib.hid (by
    rw [show needIo L [] = [] from rfl, known_nil]
    exact hset.below ((Below.refl _ _).alloc (Nat.le_refl _) _))
  have B0 : Hid (Below w.heap.size w (w0.alloc (.cells #[] 9))) := Lib.hid (hb.alloc hb.size _)
  have O0 : Hid (OwnL (w0.alloc (.cells #[] 9)) (w.heap.size + 1) (.slice (some ⟨w0.heap.size, 0, none⟩) 0 0) []) := Lib.hid (OwnL.litS z0)
  clear hset hb HPa
  go_wp2_with fail
  go_loopw [4, 6, 8, 14] (fun v _ _ u wr => ∃ i : Nat, u = .int .i64 i ∧ i ≤ n ∧ OwnL wr (w.heap.size + 1) v (needIo L (candsTo L i)) ∧ SetSAt wr w.heap.size (n + (candsTo L i).length) (knownT L (needIo L (candsTo L i))) ∧ w.heap.size < wr.heap.size ∧ Below w.heap.size w wr) (fun _ _ _ u _ => n - (intOf u).toNat)
  case atStart => exact ⟨0, rfl, Nat.zero_le _, by rw [HZ.out]; exact O0.out, by rw [HZ.out]; exact S0.out, by simp; omega, B0.out⟩
  case round =>
    obtain ⟨i, rfl, hi, ho, hst, zr, hb⟩ := hrel
    have O := Lib.hid ho
    have St := Lib.hid hst
    have B := Lib.hid hb
    clear ho hst hb O0 S0 B0
    by_cases hlt : i < n
    · have hlt2 : (i : Int) < (n : Int) := by omega
      obtain ⟨e, he, hz⟩ := HG.out i hlt
      have R := Lib.hid (H1.out.below B.out hg)
      obtain ⟨c0, c1, c2, c3, c4, c5, c6, c7, c8, c9⟩ := R.out.ten he
      have HS := Lib.hid (candsTo_step he)
      obtain ⟨hPl, hxs⟩ := HT.out i e he
      have HXs := Lib.hid hxs
      have HP := Lib.hid (fun w => parents_impl e.path w hz)
      clear he HT HG R hxs
      generalize parentsv e.path = P at HS HXs HP hPl
      obtain ⟨k0, p, l, m, u, g0, t, us, gr, b⟩ := e
      dsimp only at HXs HP hz
      obtain ⟨ds, hds⟩ : ∃ ds, candsTo L i = ds := ⟨_, rfl⟩
      rw [hds] at O St HS hPl
      clear hds
      go_wp2_with fail
      refine (HP.out _).mono ?_
      rintro e1 w1 ⟨v5, rfl, hp, hb⟩
      obtain ⟨gp, cp, rfl, hc, zp, zpb⟩ := hp.openS
      obtain ⟨k1, bb, z1⟩ := one_new (e1 := ⟨k0, p, l, m, u, g0, t, us, gr, b⟩) hb
      have CP := Lib.hid hc
      have O1 := Lib.hid (OwnL.keep O.out bb)
      have S1 := Lib.hid (St.out.below bb)
      have B1 := Lib.hid (btE B.out bb)
      have zgp : wr.heap.size < gp := by simp at zpb; omega
      have N1 : Hid (some gp ≠ Value.ownBlock u4) := Lib.hid (by
        obtain ⟨g', c', rfl, _, zz, _⟩ := O.out.openS
        simp only [Value.ownBlock, ne_eq, Option.some.injEq]; omega)
      clear hp hc hb bb k1 O St B c0 c1 c2 c3 c4 c5 c6 c7 c8 c9 HP zpb
      have z2 : w.heap.size < gp := by omega
      go_wp2_with fail
      go_loopw [4, 8, 22] (fun v _ u w2 => ∃ k : Nat, u = .int .i64 k ∧ k ≤ P.length ∧ OwnL w2 (w.heap.size + 1) v (needIo L (ds ++ P.take k)) ∧ some gp ≠ v.ownBlock ∧ CellsS w2 gp P ∧ gp < w2.heap.size ∧ SetSAt w2 w.heap.size (n + (ds.length + k)) (knownT L (needIo L (ds ++ P.take k))) ∧ Below w.heap.size w w2) (fun _ _ u _ => P.length - (intOf u).toNat)
      case atStart => exact ⟨0, rfl, Nat.zero_le _, by simpa using O1.out, N1.out, CP.out, zp, by simpa using S1.out, B1.out⟩
      case round =>
        obtain ⟨k, rfl, hk, ho, hne, hc, zc, hst, hb⟩ := hrel
        have O2 := Lib.hid ho
        have N2 := Lib.hid hne
        have C2 := Lib.hid hc
        have S2 := Lib.hid hst
        have B2 := Lib.hid hb
        clear ho hne hc hst hb O1 N1 CP S1 B1
        by_cases hlk : k < P.length
        · have hlk2 : (k : Int) < (P.length : Int) := by omega
          obtain ⟨x, hx⟩ : ∃ x, P[k]? = some x := ⟨_, List.getElem?_eq_getElem hlk⟩
          have c := C2.out.at hx
          have hD : (needIo L (ds ++ P.take k)).length ≤ 2097152 := by
            have h1 := HLn.out (ds ++ P.take k)
            simp only [List.length_append, List.length_take] at h1
            omega
          have HN := Lib.hid (take_snocS hx ds)
          have kx : x.size ≤ maxLen := by have := HXs.out x (List.mem_of_getElem? hx); simp only [maxLen]; omega
          have HY := Lib.hid (fun h => istep_yes (L := L) (N := needIo L (ds ++ P.take k)) (d := x) h)
          have HNo := Lib.hid (fun h => istep_no (L := L) (N := needIo L (ds ++ P.take k)) (d := x) h)
          have HSn := Lib.hid (needIo_snoc L (ds ++ P.take k) x)
          have HKp := Lib.hid (known_put L (needIo L (ds ++ P.take k)) x)
          clear hx
          generalize hDD : needIo L (ds ++ P.take k) = D at O2 S2 HY HNo HSn hD HKp
          clear hDD
          have HH := Lib.hid (has_impl w.heap.size (n + (ds.length + k)) (knownT L D) x wr kx S2.out)
          generalize htp : knownT L D x = tp at HH HY HNo
          clear htp
          obtain ⟨gd, cd, rfl, _, zd, zdb⟩ := O2.out.openS
          have hsz := B2.out.size
          go_wp2_with fail
          refine HH.out.mono ?_
          rintro e2 w3 ⟨rfl, hb⟩
          have O3 := Lib.hid (own_belowT O2.out.1 hb)
          have C3 := Lib.hid (C2.out.below hb zc)
          have S3 := Lib.hid (S2.out.below hb)
          have B3 := Lib.hid (btE B2.out hb)
          have zc3 := Nat.lt_of_lt_of_le zc hb.size
          have zd3 := Nat.lt_of_lt_of_le zd hb.size
          clear hb O2 C2 S2 B2 HH c
          have hsz3 := B3.out.size
          cases tp with
          | true =>
            have HE : Hid (needIo L (ds ++ P.take (k + 1)) = D) := Lib.hid (by rw [HN.out, HSn.out, HY.out rfl])
            have O4 : Hid (OwnL w3 (w.heap.size + 1) (.slice (some ⟨gd, 0, none⟩) D.length cd) (needIo L (ds ++ P.take (k + 1)))) := Lib.hid (by rw [HE.out]; exact ⟨O3.out, _, _, rfl⟩)
            have S4 : Hid (SetSAt w3 w.heap.size (n + (ds.length + (k + 1))) (knownT L (needIo L (ds ++ P.take (k + 1))))) := Lib.hid (by rw [HE.out]; exact S3.out.more (by omega))
            clear HY HNo HSn HN HE HKp
            go_wp2_with fail
            go_roundw
            case rel => exact ⟨k + 1, by go_num, by omega, O4.out, N2.out, C3.out, zc3, S4.out, B3.out⟩
            case measure => simp [intOf]; omega
          | false =>
            have HE : Hid (needIo L (ds ++ P.take (k + 1)) = D ++ [x]) := Lib.hid (by rw [HN.out, HSn.out, HNo.out rfl])
            clear HY HNo HSn HN
            obtain ⟨Dm, hom, hDm⟩ := S3.out
            have OM := Lib.hid hom
            have HDm := Lib.hid hDm
            clear hom hDm S3
            go_wp2_with (first | (at_mapUpdate; refine wpList_mapUpdate_own _ rfl _ _ _ 67 rfl 9 70 lawS Try.underlying67 _ w.heap.size (n + (ds.length + k)) Dm rfl OM.out (by simp only [maxLen]; omega) _ _ _ rfl rfl (key_of kx) _ [] unitElem_mk ?_; intro w4 hown4 hgrow4; have S4 : Hid (SetSAt w4 w.heap.size (n + (ds.length + k) + 1) (knownT L (D ++ [x]))) := Lib.hid (by rw [← HKp.out]; exact ⟨_, hown4, HDm.out.put x _⟩); have B4 : Hid (Below w.heap.size w w4) := Lib.hid (B3.out.grown hgrow4 hsz3 (fun b hb => by cases hb; exact Nat.le_refl _)); have O4 : Hid (w4.ownsRow (w.heap.size + 1) 9 1 (.slice (some ⟨gd, 0, none⟩) D.length cd) D.length (strVals D)) := Lib.hid (World.ownsRow.kept O3.out hgrow4 (.inr (by simp only [Value.ownBlock, ne_eq, Option.some.injEq]; omega))); have C4 := Lib.hid (C3.out.grown hgrow4 (by simp only [ne_eq, Option.some.injEq]; omega)); have zc4 := Nat.lt_of_lt_of_le zc3 hgrow4.size; have zd4 := Nat.lt_of_lt_of_le zd3 hgrow4.size; clear hown4 hgrow4 OM HDm HKp O3 C3 B3; have hsz4 := B4.out.size) | (at_builtin; refine wpList_append_own_at _ rfl _ _ 30 rfl (w.heap.size + 1) 9 i0 (.string ⟨#[]⟩) 1 16 Try.underlying30 hi0 hz0 hz1 hz2 rfl (by decide) _ _ _ rfl (World.ownsRow.alloc O4.out _) ⟨w4.heap.size, 0, none⟩ 1 1 [.string x] rfl rfl ?c1 ?c2 ?c3 ?c4 ?c5 ?_))
            case c1 => exact cell_one_new _ _ _
            case c2 => intro u hu; simp at hu; subst hu; rfl
            case c3 => simp only [maxLen]; omega
            case c4 => omega
            case c5 => simp; omega
            · intro v' w5 hown' hgrow hnil hloc
              have hO : OwnL w5 (w.heap.size + 1) v' (D ++ [x]) := own_snoc hown' hnil
              have hS : SetSAt w5 w.heap.size (n + (ds.length + (k + 1))) (knownT L (D ++ [x])) := ((S4.out.below ((Below.refl _ w4).alloc (Nat.le_refl _) _)).kept hgrow (by simp only [Value.ownBlock, ne_eq, Option.some.injEq]; omega)).more (by omega)
              rw [← HE.out] at hO hS
              have hB : Below w.heap.size w w5 := (B4.out.alloc hsz4 _).grown hgrow (by simp; omega) (fun b hb => by simp only [Value.ownBlock, Option.some.injEq] at hb; omega)
              have hC : CellsS w5 gp P := (C4.out.below ((Below.refl _ w4).alloc (Nat.le_refl _) _) zc4).grown hgrow N2.out
              have hN : some gp ≠ v'.ownBlock := by
                rcases hloc with hl | hl
                · rw [hl]; exact N2.out
                · rw [hl]; exact someNe (by first | omega | (simp; omega))
              have zc5 : gp < w5.heap.size := by have := hgrow.size; simp at this; omega
              have O6 := Lib.hid hO
              have S6 := Lib.hid hS
              have B6 := Lib.hid hB
              have C6 := Lib.hid hC
              have N6 := Lib.hid hN
              clear hown' hgrow hnil hloc hO hS hB hC hN
              go_wp2_with fail
              go_roundw
              case rel => exact ⟨k + 1, by go_num, by omega, O6.out, N6.out, C6.out, zc5, S6.out, B6.out⟩
              case measure => simp [intOf]; omega
        · obtain rfl : k = P.length := by omega
          have hlk2 : ¬ (P.length : Int) < (P.length : Int) := by omega
          have HE : Hid (ds ++ P.take P.length = candsTo L (i + 1)) := Lib.hid (by rw [List.take_length, HS.out])
          have HEl : Hid (ds.length + P.length = (candsTo L (i + 1)).length) := Lib.hid (by rw [HS.out]; simp)
          rw [HE.out] at O2 S2
          rw [HEl.out] at S2
          have zr2 : w.heap.size < wr.heap.size := by omega
          go_wp2_with fail
          go_roundw
          case rel => exact ⟨i + 1, by go_num, by omega, O2.out, S2.out, zr2, B2.out⟩
          case measure => simp [intOf]; omega
    · obtain rfl : i = n := by omega
      have hlt2 : ¬ (i : Int) < (i : Int) := by omega
      have hlf := HLf.out
      generalize needIo L (candsTo L i) = N at O HD hlf
      obtain ⟨gd, cd, rfl, _, zd, zdb⟩ := O.out.openS
      have HSo := Lib.hid (sortS_own N (w.heap.size + 1) gd cd wr (by omega) O.out)
      clear St HLn
      go_wp2_with fail
      refine HSo.out.mono ?_
      rintro e1 w1 ⟨rfl, hs, hgrow⟩
      have hO := hs r HD.out
      have hB : Below w.heap.size w w1 := B.out.grown hgrow B.out.size (fun b hb => by cases hb; omega)
      have O6 := Lib.hid (hO.weakS (base' := w.heap.size) (by omega))
      have B6 := Lib.hid hB
      clear hs hgrow hO hB HSo O
      go_wp2_with fail
      go_ret
      exact ⟨_, rfl, O6.out, B6.out⟩
end Go.Proofs.Ytlbkojiengofeab
