/- Contract of impl.Alike. -/
import Derived.Test.YtlbkojiengofeaaAlikeE
import Derived.Test.YtlbkojiengofeaaFileI
import Derived.Test.YtlbkojiengofeaaEntAt
namespace Go.Proofs.Ytlbkojiengofeaa
open Go.ChangeShapes Go.WideShapes Go.ChangeAt Go.RowKit Go.Deep

theorem own_belowS {w w' : World} {base : Nat} {ty : TypeId} {v : Value} {n : Nat} {xs : List Value} (h : w.ownsRow base ty 1 v n xs) (hb : Below w.heap.size w w') : w'.ownsRow base ty 1 v n xs :=
  World.ownsRow.kept h (row := none) ⟨hb.os, hb.tape, hb.output, hb.size, fun k hk _ => hb.block k hk⟩ (by cases hv : v.ownBlock <;> simp)
set_option maxHeartbeats 3200000 in
theorem alike_impl (L : List Ent) (p : ByteArray) (n g cap : Nat) (w : World) (hn : n = L.length) (hm : n ≤ 4194304) (hg : g < w.heap.size) (hsm : SmallL L) (h1 : RowE w g L) :
    Calls Try.prog 32 #[.slice (some ⟨g, 0, none⟩) n cap, .string p] w fun e w' => ∃ v, e = .returned v ∧ OwnL w' w.heap.size v (alikev L p) ∧ Below w.heap.size w w' := by
  obtain ⟨i0, hi, hz0, hz1, hz2⟩ := info_parts Try.info9
  have H1 := Lib.hid h1
  have HF := Lib.hid (fun w (hg : g < w.heap.size) (h : RowE w g L) => file_impl L p n g cap w hn hm hg h)
  have HL : Hid (∀ (a : Nat) (e : Ent), L[a]? = some e → a < n) := Lib.hid (fun a e h => by rw [hn]; exact (List.getElem?_eq_some_iff.1 h).1)
  have HG : Hid (∀ i, i < n → ∃ e, L[i]? = some e ∧ e.path.size ≤ 4194304) := Lib.hid (fun i hi => by obtain ⟨e, he⟩ := getE' (L := L) (i := i) (by omega); exact ⟨e, he, (small_parts (hsm.get he)).1⟩)
  have HR : Hid (alikev L p = if filev L p < 0 then [] else alikeTo L (filev L p).toNat (L.getD (filev L p).toNat entD).path n) := Lib.hid (by rw [hn]; rfl)
  generalize alikev L p = r at HR
  clear h1 hn hsm
  rcases filev_cases L p with h | ⟨a, f, h, hf, _⟩
  · have HE : Hid (r = []) := Lib.hid (by rw [HR.out, h, if_pos (by omega)])
    rw [h] at HF
    clear h HR
    go_enter Try.func32, Try.ntmps32
    go_wp2_with fail
    have zg : g < (w.alloc (.cells #[] 9)).heap.size := by simp; omega
    have R0 : RowE (w.alloc (.cells #[] 9)) g L := H1.out.below ((Below.refl _ w).alloc (Nat.le_refl _) _) hg
    refine (HF.out _ zg R0).mono ?_
    rintro e w1 ⟨rfl, hb⟩
    have O1 := Lib.hid (OwnL.keep (base := w.heap.size) (v := .slice (some ⟨w.heap.size, 0, none⟩) 0 0) (l := []) ⟨World.ownsRow_lit w #[] 0 (Nat.le_refl _) (by simp) rfl, _, _, rfl⟩ hb)
    have B1 := Lib.hid (btE ((Below.refl _ w).alloc (Nat.le_refl _) (.cells #[] 9)) hb)
    clear hb R0 zg
    go_wp2_with fail
    go_ret
    rw [HE.out]
    exact ⟨_, rfl, O1.out, B1.out⟩
  · have ha := HL.out a f hf
    have HE : Hid (r = alikeTo L a f.path n) := Lib.hid (by rw [HR.out, h, if_neg (by omega)]; simp [List.getD, hf])
    have ha2 : (a : Int) < (n : Int) := by omega
    rw [h] at HF
    clear h HR
    obtain ⟨fp, hfp⟩ : ∃ fp, f.path = fp := ⟨_, rfl⟩
    rw [hfp] at HE
    have HFP := Lib.hid hfp
    clear hfp
    go_enter Try.func32, Try.ntmps32
    go_wp2_with fail
    have zg : g < (w.alloc (.cells #[] 9)).heap.size := by simp; omega
    have R0 : RowE (w.alloc (.cells #[] 9)) g L := H1.out.below ((Below.refl _ w).alloc (Nat.le_refl _) _) hg
    refine (HF.out _ zg R0).mono ?_
    rintro e w1 ⟨rfl, hb⟩
    have O1 := Lib.hid (OwnL.keep (base := w.heap.size) (v := .slice (some ⟨w.heap.size, 0, none⟩) 0 0) (l := []) ⟨World.ownsRow_lit w #[] 0 (Nat.le_refl _) (by simp) rfl, _, _, rfl⟩ hb)
    have B1 := Lib.hid (btE ((Below.refl _ w).alloc (Nat.le_refl _) (.cells #[] 9)) hb)
    clear hb R0 zg
    go_wp2_with fail
    go_loopw [5, 7, 8, 18] (fun v _ _ u wr => ∃ (i : Nat), i ≤ n ∧ u = .int .i64 i ∧ OwnL wr w.heap.size v (alikeTo L a fp i) ∧ Below w.heap.size w wr) (fun _ _ _ u _ => n - (intOf u).toNat)
    case atStart => exact ⟨0, Nat.zero_le _, rfl, O1.out, B1.out⟩
    case round =>
      obtain ⟨i, hi', rfl, hown, hb⟩ := hrel
      have O := Lib.hid hown
      have B := Lib.hid hb
      clear hown hb
      by_cases hlt : i < n
      · have hlt2 : (i : Int) < (n : Int) := by omega
        obtain ⟨e, he, hsz⟩ := HG.out i hlt
        have HHit := Lib.hid (fun h => alikeTo_hit (a := a) (q := fp) he h)
        have HMiss := Lib.hid (fun h => alikeTo_miss (a := a) (q := fp) he h)
        have R := Lib.hid (H1.out.below B.out hg)
        obtain ⟨c0, c1, c2, c3, c4, c5, c6, c7, c8, c9⟩ := R.out.ten he
        clear he
        have hD := alikeTo_len L a fp i
        obtain ⟨k, x, l, m, u, g0, t, us, gr, b⟩ := e
        dsimp only at hsz HHit HMiss c0 c1 c2 c3 c4 c5 c6 c7 c8 c9
        have hgr : g < wr.heap.size := Nat.lt_of_lt_of_le hg B.out.size
        obtain ⟨ho, gg, cc, rfl⟩ := O.out
        have zgg := (World.ownsRow.lt ho gg rfl).2
        have O2 := Lib.hid ho
        clear ho O
        have EA : EntAt (wr.alloc (.cells #[.int .i64 k, .string x, .string l, .int .i64 m, .int .i64 u, .int .i64 g0, .int .i64 t, .string us, .string gr, .string b] 26)) wr.heap.size 0 ⟨k, x, l, m, u, g0, t, us, gr, b⟩ := EntAt.new wr ⟨k, x, l, m, u, g0, t, us, gr, b⟩ _
        have RA : RowE (wr.alloc (.cells #[.int .i64 k, .string x, .string l, .int .i64 m, .int .i64 u, .int .i64 g0, .int .i64 t, .string us, .string gr, .string b] 26)) g L := R.out.below ((Below.refl _ wr).alloc (Nat.le_refl _) _) hgr
        have BA : Below w.heap.size w (wr.alloc (.cells #[.int .i64 k, .string x, .string l, .int .i64 m, .int .i64 u, .int .i64 g0, .int .i64 t, .string us, .string gr, .string b] 26)) := B.out.alloc B.out.size _
        have OA : (wr.alloc (.cells #[.int .i64 k, .string x, .string l, .int .i64 m, .int .i64 u, .int .i64 g0, .int .i64 t, .string us, .string gr, .string b] 26)).ownsRow w.heap.size 9 1 (.slice (some ⟨gg, 0, none⟩) (alikeTo L a fp i).length cc) (alikeTo L a fp i).length (strVals (alikeTo L a fp i)) := World.ownsRow.alloc O2.out _
        have HEA := Lib.hid EA
        have HRA := Lib.hid RA
        have HBA := Lib.hid BA
        have HOA := Lib.hid OA
        have zA : wr.heap.size < (wr.alloc (.cells #[.int .i64 k, .string x, .string l, .int .i64 m, .int .i64 u, .int .i64 g0, .int .i64 t, .string us, .string gr, .string b] 26)).heap.size := by simp
        clear EA RA BA OA O2
        have HC := Lib.hid (fun w => clone_any x w (by omega))
        go_wp2_with fail
        clear c0 c1 c2 c3 c4 c5 c6 c7 c8 c9
        generalize wr.alloc (.cells #[.int .i64 k, .string x, .string l, .int .i64 m, .int .i64 u, .int .i64 g0, .int .i64 t, .string us, .string gr, .string b] 26) = wa at *
        obtain ⟨_, d1, _⟩ := HRA.out.ten hf
        clear hf
        rw [HFP.out] at d1
        obtain ⟨c0, c1, c2, c3, c4, c5, c6, c7, c8, c9⟩ := HEA.out.zero
        dsimp only at c0 c1 c2
        clear c3 c4 c5 c6 c7 c8 c9
        by_cases hia : i = a
        · have HN : Hid (alikeTo L a fp (i + 1) = alikeTo L a fp i ++ [x]) := Lib.hid (HHit.out (by simp [alikeB, hia]))
          have hia2 : ((i : Int) == (a : Int)) = true := by simp [hia]
          have hia3 : (i : Int) = (a : Int) := by omega
          clear hia
          clear HHit HMiss
          go_quiet (fail)
          have HO1 : Hid ((wa.drewN nq).ownsRow w.heap.size 9 1 (.slice (some ⟨gg, 0, none⟩) (alikeTo L a fp i).length cc) (alikeTo L a fp i).length (strVals (alikeTo L a fp i))) := Lib.hid HOA.out
          have HB1 : Hid (Below w.heap.size w (wa.drewN nq)) := Lib.hid ⟨HBA.out.os, HBA.out.tape, HBA.out.output, HBA.out.size, HBA.out.block⟩
          have e1 : (wa.drewN nq).cell? ⟨wr.heap.size, 1, none⟩ = some (.string x) := c1
          clear HOA HBA c0 c1 c2 d1 HEA HRA zA
          generalize wa.drewN nq = w1 at *
          go_wp2_with fail
          refine (HC.out _).mono ?_
          rintro e w2 ⟨rfl, hb⟩
          have HO2 := Lib.hid (own_belowS HO1.out hb)
          have HB2 := Lib.hid (btE HB1.out hb)
          clear hb HO1 HB1 e1
          generalize alikeTo L a fp i = D at HO2 HN hD
          have hsz2 := HB2.out.size
          go_wp2_with (at_builtin; refine wpList_append_own _ rfl _ _ 44 rfl w.heap.size 9 i0 (.string ⟨#[]⟩) 1 16 Try.underlying44 hi hz0 hz1 hz2 rfl (by decide) _ _ _ rfl (World.ownsRow.alloc HO2.out _) ⟨w2.heap.size, 0, none⟩ 1 1 [.string x] rfl rfl ?c1 ?c2 ?c3 ?c4 ?c5 ?_)
          case c1 => exact cell_one_new _ _ _
          case c2 => intro u hu; simp at hu; subst hu; rfl
          case c3 => simp only [maxLen]; omega
          case c4 => omega
          case c5 => simp; omega
          · intro v' w3 hown' hgrow hnil
            have hO : OwnL w3 w.heap.size v' (D ++ [x]) := own_snoc hown' hnil
            rw [← HN.out] at hO
            have hBl : Below w.heap.size w w3 := (HB2.out.alloc hsz2 _).grown hgrow (by simp; omega) (fun b hb => (World.ownsRow.lt HO2.out b hb).1)
            clear hown' hgrow hnil
            have HO3 := Lib.hid hO
            have HB3 := Lib.hid hBl
            clear hO hBl
            go_wp2_with fail
            go_roundw
            case rel => exact ⟨i + 1, by omega, by go_num, HO3.out, HB3.out⟩
            case measure => simp [intOf]; omega
        · have hia2 : ((i : Int) == (a : Int)) = false := by simp; omega
          have hia3 : ¬ (i : Int) = (a : Int) := by omega
          by_cases hk : k = 3
          · by_cases hl : l = fp
            · have HN : Hid (alikeTo L a fp (i + 1) = alikeTo L a fp i ++ [x]) := Lib.hid (HHit.out (by simp [alikeB, hk, hl]))
              have q := baE_eq hl
              subst hk
              clear hl hia
              clear HHit HMiss
              go_quiet (fail)
              have HO1 : Hid ((wa.drewN nq).ownsRow w.heap.size 9 1 (.slice (some ⟨gg, 0, none⟩) (alikeTo L a fp i).length cc) (alikeTo L a fp i).length (strVals (alikeTo L a fp i))) := Lib.hid HOA.out
              have HB1 : Hid (Below w.heap.size w (wa.drewN nq)) := Lib.hid ⟨HBA.out.os, HBA.out.tape, HBA.out.output, HBA.out.size, HBA.out.block⟩
              have e1 : (wa.drewN nq).cell? ⟨wr.heap.size, 1, none⟩ = some (.string x) := c1
              clear HOA HBA c0 c1 c2 d1 HEA HRA zA
              generalize wa.drewN nq = w1 at *
              go_wp2_with fail
              refine (HC.out _).mono ?_
              rintro e w2 ⟨rfl, hb⟩
              have HO2 := Lib.hid (own_belowS HO1.out hb)
              have HB2 := Lib.hid (btE HB1.out hb)
              clear hb HO1 HB1 e1
              generalize alikeTo L a fp i = D at HO2 HN hD
              have hsz2 := HB2.out.size
              go_wp2_with (at_builtin; refine wpList_append_own _ rfl _ _ 44 rfl w.heap.size 9 i0 (.string ⟨#[]⟩) 1 16 Try.underlying44 hi hz0 hz1 hz2 rfl (by decide) _ _ _ rfl (World.ownsRow.alloc HO2.out _) ⟨w2.heap.size, 0, none⟩ 1 1 [.string x] rfl rfl ?c1 ?c2 ?c3 ?c4 ?c5 ?_)
              case c1 => exact cell_one_new _ _ _
              case c2 => intro u hu; simp at hu; subst hu; rfl
              case c3 => simp only [maxLen]; omega
              case c4 => omega
              case c5 => simp; omega
              · intro v' w3 hown' hgrow hnil
                have hO : OwnL w3 w.heap.size v' (D ++ [x]) := own_snoc hown' hnil
                rw [← HN.out] at hO
                have hBl : Below w.heap.size w w3 := (HB2.out.alloc hsz2 _).grown hgrow (by simp; omega) (fun b hb => (World.ownsRow.lt HO2.out b hb).1)
                clear hown' hgrow hnil
                have HO3 := Lib.hid hO
                have HB3 := Lib.hid hBl
                clear hO hBl
                go_wp2_with fail
                go_roundw
                case rel => exact ⟨i + 1, by omega, by go_num, HO3.out, HB3.out⟩
                case measure => simp [intOf]; omega
            · have HN : Hid (alikeTo L a fp (i + 1) = alikeTo L a fp i) := Lib.hid (HMiss.out (by simp [alikeB, hia, hl]))
              have q := baE_ne hl
              subst hk
              clear hl hia
              clear HHit HMiss
              go_quiet (fail)
              go_wp2_with fail
              go_roundw
              case rel => exact ⟨i + 1, by omega, by go_num, by rw [HN.out]; exact ⟨HOA.out, _, _, rfl⟩, HBA.out.os, HBA.out.tape, HBA.out.output, HBA.out.size, HBA.out.block⟩
              case measure => simp [intOf]; omega
          · have HN : Hid (alikeTo L a fp (i + 1) = alikeTo L a fp i) := Lib.hid (HMiss.out (by simp [alikeB, hia, hk]))
            have hk2 : (k == 3) = false := by simpa using hk
            have hk3 : decide (k = 3) = false := by simpa using hk
            clear hk hia
            clear HHit HMiss
            go_quiet (fail)
            go_wp2_with fail
            go_roundw
            case rel => exact ⟨i + 1, by omega, by go_num, by rw [HN.out]; exact ⟨HOA.out, _, _, rfl⟩, HBA.out.os, HBA.out.tape, HBA.out.output, HBA.out.size, HBA.out.block⟩
            case measure => simp [intOf]; omega
      · obtain rfl : i = n := by omega
        have hlt2 : ¬ (i : Int) < (i : Int) := by omega
        have hlt3 : decide ((i : Int) < (i : Int)) = false := by simp
        rw [← HE.out] at O
        go_wp2_with fail
        go_ret
        exact ⟨_, rfl, O.out, B.out⟩
end Go.Proofs.Ytlbkojiengofeaa
