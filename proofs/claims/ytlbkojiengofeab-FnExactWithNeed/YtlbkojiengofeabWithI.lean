/- Contract of impl.WithNeed. -/
import Derived.Test.YtlbkojiengofeabWithMath
namespace Go.Proofs.Ytlbkojiengofeab
open Go.ChangeShapes Go.WideShapes Go.ChangeAt Go.RowKit Go.Deep Go.Maps

set_option maxHeartbeats 1600000 in
set_option maxRecDepth 8000 in
theorem with_impl (L : List Ent) (q : Int) (n g ca : Nat) (w : World) (hn : n = L.length) (hm : n ≤ 1048576) (hg : g < w.heap.size) (hs : SmallL L) (ht : totL L ≤ 2097152) (h1 : RowE w g L) :
    Calls Try.prog 20 #[.slice (some ⟨g, 0, none⟩) n ca, .int .i64 q] w fun e w' => ∃ v, e = .returned v ∧ OwnE w' w.heap.size v (withv L q) ∧ Below w.heap.size w w' := by
  obtain ⟨i0, hi0, hz0, hz1, hz2⟩ := info_parts Try.infoE
  have H1 := Lib.hid h1
  have hNl : (needv L).length ≤ 2097152 := by have := needv_len L; simp only [totL] at ht; omega
  have HSm := dirs_small hs q
  have HN := Lib.hid (fun w hg h => need_impl L n g ca w hn hm hg hs ht h)
  have HO := Lib.hid (fun base v w h => listOk_own ((needv L).map (dirE q) ++ L) base v w (by simp; omega) HSm h)
  have HC := Lib.hid (fun base v w h => copy_own ((needv L).map (dirE q) ++ L) base v w (by simp; omega) HSm h)
  have HC1 := Lib.hid (fun w hg h => copy_impl L n g ca w hn (by omega) hg hs h)
  have HD : Hid (withv L q = if listOkv ((needv L).map (dirE q) ++ L) = true then (needv L).map (dirE q) ++ L else L) := Lib.hid rfl
  have HL1 : Hid ((entVals L).length = n * 10) := Lib.hid (by rw [entVals_len, hn])
  have HN1 := Lib.hid hn
  generalize withv L q = r at HD
  generalize needv L = N at HN hNl HO HD HC
  clear h1 hn hs ht HSm
  go_enter Try.func20, Try.ntmps20
  go_wp2_with fail
  refine (HN.out _ hg H1.out).mono ?_
  rintro e w1 ⟨v6, rfl, ho, hb⟩
  obtain ⟨gn, cn, rfl, hc, zn, znb⟩ := ho.openS
  have CN := Lib.hid hc
  have B1 := Lib.hid hb
  clear ho hc hb HN
  go_wp2_with fail
  go_loopw [5, 7, 11] (fun v _ u wr => ∃ i : Nat, u = .int .i64 i ∧ i ≤ N.length ∧ OwnN wr w.heap.size v (dirsTo q N i) ∧ some gn ≠ v.ownBlock ∧ CellsS wr gn N ∧ gn < wr.heap.size ∧ Below w.heap.size w wr) (fun _ _ u _ => N.length - (intOf u).toNat)
  case atStart => exact ⟨0, rfl, Nat.zero_le _, OwnN.nil _ _, by simp [Value.ownBlock], CN.out, zn, B1.out⟩
  case round =>
    obtain ⟨i, rfl, hi, ho, hne, hc, zc, hb⟩ := hrel
    have O := Lib.hid ho
    have N2 := Lib.hid hne
    have C := Lib.hid hc
    have B := Lib.hid hb
    clear ho hne hc hb CN B1
    have hD := dirsTo_len q N i
    by_cases hlt : i < N.length
    · have hlt2 : (i : Int) < (N.length : Int) := by omega
      obtain ⟨d, hd⟩ : ∃ d, N[i]? = some d := ⟨_, List.getElem?_eq_getElem hlt⟩
      have c := C.out.at hd
      have HE := Lib.hid (dirsTo_step (q := q) hd)
      clear hd
      have hsz := B.out.size
      generalize dirsTo q N i = D at O HE hD
      have O1 : Hid (wr.ownsRow w.heap.size 51 10 _ D.length (entVals D)) := O
      go_wp2_with (at_builtin; refine wpList_append_own_at _ rfl _ _ 24 rfl w.heap.size 51 i0 (.agg #[.int .i64 0, .string ⟨#[]⟩, .string ⟨#[]⟩, .int .i64 0, .int .i64 0, .int .i64 0, .int .i64 0, .string ⟨#[]⟩, .string ⟨#[]⟩, .string ⟨#[]⟩]) 10 120 Try.underlying24 hi0 hz0 hz1 hz2 rfl (by decide) _ _ _ rfl (World.ownsRow.alloc O1.out _) ⟨wr.heap.size, 0, none⟩ 1 1 (entVals [dirE q d]) rfl (entVals_len _) ?c1b ?c2b ?c3b ?c4b ?c5b ?_)
      case c1b => first | exact ent_new _ _ _ | exact RowE.news0 (ent_new _ _ _)
      case c2b => exact entVals_onecell _
      case c3b => (try simp only [List.length_nil]); simp only [maxLen]; omega
      case c4b => (try simp only [List.length_nil]); omega
      case c5b => simp; omega
      · intro v' w2 hown' hgrow hnil hloc
        have hO : OwnN w2 w.heap.size v' (D ++ [dirE q d]) := ownN_app hown' rfl rfl
        rw [← HE.out] at hO
        have hBl : Below w.heap.size w w2 := (B.out.alloc hsz _).grown hgrow (by simp; omega) (fun b hb => OwnN.block O.out b hb)
        have hC : CellsS w2 gn N := (C.out.below ((Below.refl _ wr).alloc (Nat.le_refl _) _) zc).grown hgrow N2.out
        have hN : some gn ≠ v'.ownBlock := by
          rcases hloc with hl | hl
          · rw [hl]; exact N2.out
          · rw [hl]; exact someNe (by first | omega | (simp; omega))
        have zc2 : gn < w2.heap.size := by have := hgrow.size; simp at this; omega
        have O2 := Lib.hid hO
        have B2 := Lib.hid hBl
        have C2 := Lib.hid hC
        have N3 := Lib.hid hN
        clear hown' hgrow hnil hloc hO hBl hC hN c
        go_wp2_with fail
        go_roundw
        case rel => exact ⟨i + 1, by go_num, by omega, O2.out, N3.out, C2.out, zc2, B2.out⟩
        case measure => simp [intOf]; omega
    · obtain rfl : i = N.length := by omega
      have hlt2 : ¬ (N.length : Int) < (N.length : Int) := by omega
      rw [dirsTo_all] at O hD
      have R1 := Lib.hid (H1.out.below B.out hg)
      have hsz := B.out.size
      have zg : g < wr.heap.size := by omega
      generalize N.map (dirE q) = D at O HO HD hD HC
      have O1 : Hid (wr.ownsRow w.heap.size 51 10 _ D.length (entVals D)) := O
      go_wp2_with (at_builtin; refine wpList_append_own _ rfl _ _ 24 rfl w.heap.size 51 i0 (.agg #[.int .i64 0, .string ⟨#[]⟩, .string ⟨#[]⟩, .int .i64 0, .int .i64 0, .int .i64 0, .int .i64 0, .string ⟨#[]⟩, .string ⟨#[]⟩, .string ⟨#[]⟩]) 10 120 Try.underlying24 hi0 hz0 hz1 hz2 rfl (by decide) _ _ _ rfl O1.out ⟨g, 0, none⟩ n ca (entVals L) rfl HL1.out ?c1c ?c2c ?c3c ?c4c ?c5c ?_)
      case c1c => first | exact R1.out | exact RowE.news0 (R1.out)
      case c2c => exact entVals_onecell _
      case c3c => (try simp only [List.length_nil]); simp only [maxLen]; omega
      case c4c => (try simp only [List.length_nil]); omega
      all_goals try (first | exact hsz | omega)
      · intro v' w2 hown' hgrow hnil
        have hO : OwnN w2 w.heap.size v' (D ++ L) := ownN_app hown' rfl HN1.out
        have hBl : Below w.heap.size w w2 := B.out.grown hgrow hsz (fun b hb => OwnN.block O.out b hb)
        generalize D ++ L = Z at HO HD hO HC
        have O2 := Lib.hid hO
        have B2 := Lib.hid hBl
        clear hown' hgrow hnil hO hBl R1 B O1 C N2 O
        go_wp2_with fail
        refine (HO.out _ _ _ O2.out).mono ?_
        rintro e1 w3 ⟨rfl, hb⟩
        have O3 : Hid (OwnN w3 w.heap.size v' Z) := Lib.hid (own_belowE O2.out hb)
        have B3 := Lib.hid (btE B2.out hb)
        have R4 := Lib.hid (H1.out.below B3.out hg)
        have hsz3 := B3.out.size
        have zg3 : g < w3.heap.size := by omega
        clear hb O2 B2
        generalize listOkv Z = ok at HD ⊢
        cases ok with
        | true =>
          have HX : Hid (r = Z) := Lib.hid (by rw [HD.out]; simp)
          go_wp2_with fail
          refine (HC.out _ _ _ O3.out).mono ?_
          rintro e2 w4 ⟨v, rfl, ho, hb⟩
          have O4 := Lib.hid (ho.weak hsz3)
          have B4 := Lib.hid (btE B3.out hb)
          clear ho hb
          go_wp2_with fail
          go_ret
          rw [HX.out]
          exact ⟨_, rfl, O4.out, B4.out⟩
        | false =>
          have HX : Hid (r = L) := Lib.hid (by rw [HD.out]; simp)
          go_wp2_with fail
          refine (HC1.out _ zg3 R4.out).mono ?_
          rintro e2 w4 ⟨v, rfl, ho, hb⟩
          have O4 := Lib.hid (ho.weak hsz3)
          have B4 := Lib.hid (btE B3.out hb)
          clear ho hb
          go_wp2_with fail
          go_ret
          rw [HX.out]
          exact ⟨_, rfl, O4.out, B4.out⟩
end Go.Proofs.Ytlbkojiengofeab
