/- Contract of spec.Alike. -/
import Derived.Test.YtlbkojiengofeaaFileE
import Derived.Test.YtlbkojiengofeaaPartsI
namespace Go.Proofs.Ytlbkojiengofeaa
open Go.ChangeShapes Go.WideShapes Go.ChangeAt Go.RowKit Go.Deep

/-- Is the i-th entry e alike the file at place a with path q? -/
def alikeB (a : Nat) (q : ByteArray) (i : Nat) (e : Ent) : Bool := decide (i = a) || (decide (e.kind = 3) && decide (e.link = q))
def alikeTo (L : List Ent) (a : Nat) (q : ByteArray) : Nat → List ByteArray
  | 0 => []
  | i + 1 => if alikeB a q i (L.getD i entD) = true then alikeTo L a q i ++ [(L.getD i entD).path] else alikeTo L a q i
def alikev (L : List Ent) (p : ByteArray) : List ByteArray := if filev L p < 0 then [] else alikeTo L (filev L p).toNat (L.getD (filev L p).toNat entD).path L.length
theorem alikeTo_len (L : List Ent) (a : Nat) (q : ByteArray) (i : Nat) : (alikeTo L a q i).length ≤ i := by
  induction i with
  | zero => simp [alikeTo]
  | succ i ih =>
    rw [alikeTo]
    split
    · simp; omega
    · omega
theorem alikev_len (L : List Ent) (p : ByteArray) : (alikev L p).length ≤ L.length := by
  rw [alikev]
  split
  · simp
  · exact alikeTo_len _ _ _ _
theorem alikeTo_hit {L : List Ent} {a : Nat} {q : ByteArray} {i : Nat} {e : Ent} (h : L[i]? = some e) (hb : alikeB a q i e = true) : alikeTo L a q (i + 1) = alikeTo L a q i ++ [e.path] := by
  rw [alikeTo]; simp [List.getD, h, hb]
theorem alikeTo_miss {L : List Ent} {a : Nat} {q : ByteArray} {i : Nat} {e : Ent} (h : L[i]? = some e) (hb : alikeB a q i e = false) : alikeTo L a q (i + 1) = alikeTo L a q i := by
  rw [alikeTo]; simp [List.getD, h, hb]
set_option maxHeartbeats 1600000 in
theorem alike_spec (L : List Ent) (p : ByteArray) (n g cap : Nat) (w : World) (hn : n = L.length) (hm : n ≤ 4194304) (hg : g < w.heap.size) (h1 : RowE w g L) :
    Calls Try.prog 31 #[.slice (some ⟨g, 0, none⟩) n cap, .string p] w fun e w' => ∃ v, e = .returned v ∧ OwnL w' w.heap.size v (alikev L p) ∧ Below w.heap.size w w' := by
  obtain ⟨i0, hi, hz0, hz1, hz2⟩ := info_parts Try.info9
  have H1 := Lib.hid h1
  have HF := Lib.hid (fun w (hg : g < w.heap.size) (h : RowE w g L) => file_spec L p n g cap w hn hm hg h)
  have HL : Hid (∀ (a : Nat) (e : Ent), L[a]? = some e → a < n) := Lib.hid (fun a e h => by rw [hn]; exact (List.getElem?_eq_some_iff.1 h).1)
  have HG : Hid (∀ i, i < n → ∃ e, L[i]? = some e) := Lib.hid (fun i hi => getE' (by omega))
  have HR : Hid (alikev L p = if filev L p < 0 then [] else alikeTo L (filev L p).toNat (L.getD (filev L p).toNat entD).path n) := Lib.hid (by rw [hn]; rfl)
  generalize alikev L p = r at HR
  clear h1 hn
  rcases filev_cases L p with h | ⟨a, f, h, hf, _⟩
  · have HE : Hid (r = []) := Lib.hid (by rw [HR.out, h, if_pos (by omega)])
    rw [h] at HF
    clear h HR
    go_enter Try.func31, Try.ntmps31
    go_wp2_with fail
    have zg : g < (w.alloc (.cells #[] 9)).heap.size := by simp; omega
    have R0 : RowE (w.alloc (.cells #[] 9)) g L := H1.out.below ((Below.refl _ w).alloc (Nat.le_refl _) _) hg
    refine (HF.out _ zg R0).mono ?_
    rintro e w1 ⟨rfl, hb⟩
    have O1 := Lib.hid (OwnL.keep (base := w.heap.size) (v := .slice (some ⟨w.heap.size, 0, none⟩) 0 0) (l := []) ⟨World.ownsRow_lit w #[] 0 (Nat.le_refl _) (by simp) rfl, _, _, rfl⟩ hb)
    have B1 := Lib.hid (btE ((Below.refl _ w).alloc (Nat.le_refl _) (.cells #[] 9)) hb)
    clear hb R0 zg
    go_wp2_with fail
    refine wp_loop_rounds 1 ?_
    rw [rounds_succ]
    by_cases h0 : (0 : Int) < (n : Int)
    · go_wp2_with fail
      go_ret
      rw [HE.out]
      exact ⟨_, rfl, O1.out, B1.out⟩
    · go_wp2_with fail
      go_ret
      rw [HE.out]
      exact ⟨_, rfl, O1.out, B1.out⟩
  · have ha := HL.out a f hf
    have HE : Hid (r = alikeTo L a f.path n) := Lib.hid (by rw [HR.out, h, if_neg (by omega)]; simp [List.getD, hf])
    have ha2 : (a : Int) < (n : Int) := by omega
    rw [h] at HF
    clear h HR
    go_enter Try.func31, Try.ntmps31
    go_wp2_with fail
    have zg : g < (w.alloc (.cells #[] 9)).heap.size := by simp; omega
    have R0 : RowE (w.alloc (.cells #[] 9)) g L := H1.out.below ((Below.refl _ w).alloc (Nat.le_refl _) _) hg
    refine (HF.out _ zg R0).mono ?_
    rintro e w1 ⟨rfl, hb⟩
    have O1 := Lib.hid (OwnL.keep (base := w.heap.size) (v := .slice (some ⟨w.heap.size, 0, none⟩) 0 0) (l := []) ⟨World.ownsRow_lit w #[] 0 (Nat.le_refl _) (by simp) rfl, _, _, rfl⟩ hb)
    have B1 := Lib.hid (btE ((Below.refl _ w).alloc (Nat.le_refl _) (.cells #[] 9)) hb)
    clear hb R0 zg
    go_wp2_with fail
    go_loopw [5, 7] (fun v u wr => ∃ (i : Nat), i ≤ n ∧ u = .int .i64 i ∧ OwnL wr w.heap.size v (alikeTo L a f.path i) ∧ Below w.heap.size w wr) (fun _ u _ => n - (intOf u).toNat)
    case atStart => exact ⟨0, Nat.zero_le _, rfl, O1.out, B1.out⟩
    case round =>
      obtain ⟨i, hi', rfl, hown, hb⟩ := hrel
      have O := Lib.hid hown
      have B := Lib.hid hb
      clear hown hb
      by_cases hlt : i < n
      · have hlt2 : (i : Int) < (n : Int) := by omega
        obtain ⟨e, he⟩ := HG.out i hlt
        obtain ⟨c0, c1, c2, c3, c4, c5, c6, c7, c8, c9⟩ := (H1.out.below B.out hg).ten he
        obtain ⟨d0, d1, d2, d3, d4, d5, d6, d7, d8, d9⟩ := (H1.out.below B.out hg).ten hf
        clear c3 c4 c5 c6 c7 c8 c9 d0 d2 d3 d4 d5 d6 d7 d8 d9
        have hD := alikeTo_len L a f.path i
        by_cases hia : i = a
        · have HN := Lib.hid (alikeTo_hit (a := a) (q := f.path) he (by simp [alikeB, hia]))
          subst hia
          clear he hf
          generalize e.path = x at c1 HN
          obtain ⟨ho, gg, cc, rfl⟩ := O.out
          have O2 := Lib.hid ho
          clear ho O
          go_wp2_with fail
          go_quiet (fail)
          have HO1 : Hid ((wr.drewN nq).ownsRow w.heap.size 9 1 (.slice (some ⟨gg, 0, none⟩) (alikeTo L i f.path i).length cc) (alikeTo L i f.path i).length (strVals (alikeTo L i f.path i))) := Lib.hid O2.out
          have HB1 : Hid (Below w.heap.size w (wr.drewN nq)) := Lib.hid ⟨B.out.os, B.out.tape, B.out.output, B.out.size, B.out.block⟩
          have e1 : (wr.drewN nq).cell? ⟨g, i * 10 + 1, none⟩ = some (.string x) := c1
          clear O2 B c0 c1 c2 d1
          generalize wr.drewN nq = w1 at *
          generalize alikeTo L i f.path i = D at HO1 HN hD
          have hsz := HB1.out.size
          go_wp2_with (at_builtin; refine wpList_append_own _ rfl _ _ 44 rfl w.heap.size 9 i0 (.string ⟨#[]⟩) 1 16 Try.underlying44 hi hz0 hz1 hz2 rfl (by decide) _ _ _ rfl (World.ownsRow.alloc HO1.out _) ⟨w1.heap.size, 0, none⟩ 1 1 [.string x] rfl rfl ?c1 ?c2 ?c3 ?c4 ?c5 ?_)
          case c1 => exact cell_one_new _ _ _
          case c2 => intro u hu; simp at hu; subst hu; rfl
          case c3 => simp only [maxLen]; omega
          case c4 => omega
          case c5 => simp; omega
          · intro v' w2 hown' hgrow hnil
            have hO : OwnL w2 w.heap.size v' (D ++ [x]) := own_snoc hown' hnil
            rw [← HN.out] at hO
            have hBl : Below w.heap.size w w2 := (HB1.out.alloc hsz _).grown hgrow (by simp; omega) (fun b hb => (World.ownsRow.lt HO1.out b hb).1)
            clear hown' hgrow hnil
            have HO2 := Lib.hid hO
            have HB2 := Lib.hid hBl
            clear hO hBl
            go_wp2_with fail
            go_roundw
            case rel => exact ⟨i + 1, by omega, by go_num, HO2.out, HB2.out⟩
            case measure => simp [intOf]; omega
        · have hia2 : decide ((i : Int) = (a : Int)) = false := decide_eq_false (by omega)
          have hia3 : ((i : Int) == (a : Int)) = false := by simpa using hia2
          by_cases hk : e.kind = 3
          · by_cases hl : e.link = f.path
            · have HN := Lib.hid (alikeTo_hit (a := a) (q := f.path) he (by simp [alikeB, hk, hl]))
              have q := baE_eq hl
              clear he hf hl
              rw [hk] at c0
              generalize e.link = l at c2 q
              generalize hfp : f.path = fp at *
              clear hk hfp
              generalize e.path = x at c1 HN
              obtain ⟨ho, gg, cc, rfl⟩ := O.out
              have O2 := Lib.hid ho
              clear ho O
              go_wp2_with fail
              go_quiet (fail)
              have HO1 : Hid ((wr.drewN nq).ownsRow w.heap.size 9 1 (.slice (some ⟨gg, 0, none⟩) (alikeTo L a fp i).length cc) (alikeTo L a fp i).length (strVals (alikeTo L a fp i))) := Lib.hid O2.out
              have HB1 : Hid (Below w.heap.size w (wr.drewN nq)) := Lib.hid ⟨B.out.os, B.out.tape, B.out.output, B.out.size, B.out.block⟩
              have e1 : (wr.drewN nq).cell? ⟨g, i * 10 + 1, none⟩ = some (.string x) := c1
              clear O2 B c0 c1 c2 d1
              generalize wr.drewN nq = w1 at *
              generalize alikeTo L a fp i = D at HO1 HN hD
              have hsz := HB1.out.size
              go_wp2_with (at_builtin; refine wpList_append_own _ rfl _ _ 44 rfl w.heap.size 9 i0 (.string ⟨#[]⟩) 1 16 Try.underlying44 hi hz0 hz1 hz2 rfl (by decide) _ _ _ rfl (World.ownsRow.alloc HO1.out _) ⟨w1.heap.size, 0, none⟩ 1 1 [.string x] rfl rfl ?c1 ?c2 ?c3 ?c4 ?c5 ?_)
              case c1 => exact cell_one_new _ _ _
              case c2 => intro u hu; simp at hu; subst hu; rfl
              case c3 => simp only [maxLen]; omega
              case c4 => omega
              case c5 => simp; omega
              · intro v' w2 hown' hgrow hnil
                have hO : OwnL w2 w.heap.size v' (D ++ [x]) := own_snoc hown' hnil
                rw [← HN.out] at hO
                have hBl : Below w.heap.size w w2 := (HB1.out.alloc hsz _).grown hgrow (by simp; omega) (fun b hb => (World.ownsRow.lt HO1.out b hb).1)
                clear hown' hgrow hnil
                have HO2 := Lib.hid hO
                have HB2 := Lib.hid hBl
                clear hO hBl
                go_wp2_with fail
                go_roundw
                case rel => exact ⟨i + 1, by omega, by go_num, HO2.out, HB2.out⟩
                case measure => simp [intOf]; omega
            · have HN := Lib.hid (alikeTo_miss (a := a) (q := f.path) he (by simp [alikeB, hia, hl]))
              have q := baE_ne hl
              clear he hf hl
              rw [hk] at c0
              generalize e.link = l at c2 q
              generalize hfp : f.path = fp at *
              clear hk hfp
              go_wp2_with fail
              go_quiet (fail)
              go_wp2_with fail
              go_roundw
              case rel => exact ⟨i + 1, by omega, by go_num, by rw [HN.out]; exact O.out, B.out.os, B.out.tape, B.out.output, B.out.size, B.out.block⟩
              case measure => simp [intOf]; omega
          · have HN := Lib.hid (alikeTo_miss (a := a) (q := f.path) he (by simp [alikeB, hia, hk]))
            clear he hf
            generalize e.kind = q at c0 hk
            have hk2 : (q == 3) = false := by simpa using hk
            have hk3 : decide (q = 3) = false := by simpa using hk
            clear hk
            go_wp2_with fail
            go_quiet (fail)
            go_wp2_with fail
            go_roundw
            case rel => exact ⟨i + 1, by omega, by go_num, by rw [HN.out]; exact O.out, B.out.os, B.out.tape, B.out.output, B.out.size, B.out.block⟩
            case measure => simp [intOf]; omega
      · obtain rfl : i = n := by omega
        have hlt2 : ¬ (i : Int) < (i : Int) := by omega
        have hlt3 : decide ((i : Int) < (i : Int)) = false := by simp
        rw [← HE.out] at O
        go_wp2_with fail
        go_ret
        exact ⟨_, rfl, O.out, B.out⟩
end Go.Proofs.Ytlbkojiengofeaa
