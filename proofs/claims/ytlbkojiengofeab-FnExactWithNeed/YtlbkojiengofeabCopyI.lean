/- Contract of impl.copyList. -/
import Derived.Test.YtlbkojiengofeabMergeE
import Derived.Test.YtlbkojiengofeabClone
import Derived.Test.YtlbkojiengofeabEntAt
import Derived.Laws.MakeOwn
namespace Go.Proofs.Ytlbkojiengofeab
open Go.ChangeShapes Go.WideShapes Go.ChangeAt Go.RowKit Go.Deep

theorem setCell_same {w : World} {b o : Nat} {v : Value} (h : w.cell? ⟨b, o, none⟩ = some v) : w.setCell ⟨b, o, none⟩ v = w := by
  have e : (w.setCell ⟨b, o, none⟩ v).heap = w.heap := by
    unfold World.setCell
    apply Array.ext
    · simp
    · intro i h1 h2
      simp only [Array.getElem_modify]
      split
      · rename_i hbi
        subst hbi
        simp only [World.cell?, Array.getElem?_eq_getElem h2] at h
        split
        · rename_i c el fz hc
          rw [hc] at h
          simp at h
          simp only [Option.isSome_none, Bool.false_eq_true, if_false]
          rw [hc]
          congr 1
          apply Array.ext
          · simp
          · intro j g1 g2
            rw [Array.getElem_setIfInBounds]
            split
            · rename_i hj
              subst hj
              rw [Array.getElem?_eq_getElem g2] at h
              simpa using h.symm
            · rfl
        · rfl
      · rfl
  have e2 : w.setCell ⟨b, o, none⟩ v = { w with heap := (w.setCell ⟨b, o, none⟩ v).heap } := rfl
  rw [e2, e]
/-- An entry in a block of its own whose cells may be written. -/
def EntF (w : World) (b : Nat) (e : Ent) : Prop := EntAt w b 0 e ∧ ∀ i, i < 10 → w.frozen? ⟨b, i, none⟩ = false
theorem EntF.below {w w' : World} {b B : Nat} {e : Ent} (h : EntF w b e) (hb : Below B w w') (hg : b < B) : EntF w' b e :=
  ⟨h.1.below hb hg, fun i hi => (hb.frozen (p := ⟨b, i, none⟩) hg).trans (h.2 i hi)⟩
theorem EntF.new (w : World) (e : Ent) (t : TypeId) : EntF (w.alloc (.cells e.cells.toArray t)) w.heap.size e := ⟨EntAt.new w e t, fun i _ => by simp⟩
theorem EntF.five {w : World} {b : Nat} {e : Ent} (h : EntF w b e) : w.frozen? ⟨b, 1, none⟩ = false ∧ w.frozen? ⟨b, 2, none⟩ = false ∧ w.frozen? ⟨b, 7, none⟩ = false ∧ w.frozen? ⟨b, 8, none⟩ = false ∧ w.frozen? ⟨b, 9, none⟩ = false :=
  ⟨h.2 1 (by omega), h.2 2 (by omega), h.2 7 (by omega), h.2 8 (by omega), h.2 9 (by omega)⟩
theorem one_newF {w w1 : World} {e1 : Ent} {t1 : TypeId} (h : Below (w.alloc (.cells e1.cells.toArray t1)).heap.size (w.alloc (.cells e1.cells.toArray t1)) w1) :
    EntF w1 w.heap.size e1 ∧ Below w.heap.size w w1 ∧ w.heap.size + 1 ≤ w1.heap.size := by
  have hs : (w.alloc (.cells e1.cells.toArray t1)).heap.size = w.heap.size + 1 := by simp
  exact ⟨(EntF.new w e1 t1).below h (by omega), ((Below.refl _ w).alloc (Nat.le_refl _) _).trans (h.mono (by omega)), by have := h.size; omega⟩
theorem take_snocE {L : List Ent} {i : Nat} {e : Ent} (he : L[i]? = some e) : L.take (i + 1) = L.take i ++ [e] := by
  rw [List.take_add_one, he]; rfl
theorem copy_nil (w : World) : Calls Try.prog 40 #[.slice none 0 0] w fun e w' => ∃ v, e = .returned v ∧ OwnE w' w.heap.size v [] ∧ Below w.heap.size w w' := by
  have hmk : ∀ w, (Instr.makeSlice 24 (.int .i64 0) (.int .i64 0)).run Try.prog w = .ok (.slice (some ⟨w.heap.size, 0, none⟩) 0 0) (w.alloc (.cells #[] 51)) := fun _ => by kernel_rfl
  go_enter Try.func40, Try.ntmps40
  go_wp2_with fail
  refine wp_loop_rounds 1 ?_
  rw [rounds_succ]
  go_wp2_with fail
  go_ret
  exact ⟨_, rfl, OwnE.lit (Nat.le_refl _), (Below.refl _ _).alloc (Nat.le_refl _) _⟩
set_option maxRecDepth 8000 in
set_option maxHeartbeats 1600000 in
theorem copy_impl (L : List Ent) (n g cap : Nat) (w : World) (hn : n = L.length) (hm : n ≤ 4194304) (hg : g < w.heap.size) (hsm : SmallL L) (h1 : RowE w g L) :
    Calls Try.prog 40 #[.slice (some ⟨g, 0, none⟩) n cap] w fun e w' => ∃ v, e = .returned v ∧ OwnE w' w.heap.size v L ∧ Below w.heap.size w w' := by
  obtain ⟨i0, hi0, hz0, hz1, hz2⟩ := info_parts Try.infoE
  have H1 := Lib.hid h1
  have HG : Hid (∀ i, i < n → ∃ e, L[i]? = some e ∧ esz e ≤ 4194304) := Lib.hid (fun i hi => by obtain ⟨e, he⟩ := getE' (L := L) (i := i) (by omega); exact ⟨e, he, hsm.get he⟩)
  have HF : Hid (L.take n = L) := Lib.hid (by rw [hn, List.take_length])
  have HLn : Hid (∀ i, i ≤ n → (L.take i).length ≤ i) := Lib.hid (fun i hi => by simp; omega)
  obtain ⟨w0, hmk, hown0, hgr0⟩ := run_make_own (P := Try.prog) w w.heap.size 24 51 i0 (.agg #[.int .i64 0, .string ⟨#[]⟩, .string ⟨#[]⟩, .int .i64 0, .int .i64 0, .int .i64 0, .int .i64 0, .string ⟨#[]⟩, .string ⟨#[]⟩, .string ⟨#[]⟩]) 10 Try.underlying24 hi0 hz0 hz1 .i64 .i64 n (by rw [hz2]; omega) (by simp only [maxLen]; omega) (Nat.le_refl _)
  have O0 : Hid (OwnE w0 w.heap.size (.slice (some ⟨w.heap.size, 0, none⟩) 0 n) []) := Lib.hid ⟨hown0, _, _, rfl⟩
  have B0 : Hid (Below w.heap.size w w0) := Lib.hid ((Below.refl _ w).grown hgr0 (Nat.le_refl _) (fun b hb => by cases hb))
  clear h1 hn hsm hown0 hgr0
  go_enter Try.func40, Try.ntmps40
  go_wp2_with fail
  clear hmk
  go_loopw [3, 5, 11] (fun v _ u wr => ∃ i : Nat, u = .int .i64 i ∧ i ≤ n ∧ OwnE wr w.heap.size v (L.take i) ∧ Below w.heap.size w wr) (fun _ _ u _ => n - (intOf u).toNat)
  case atStart => exact ⟨0, rfl, Nat.zero_le _, by simpa using O0.out, B0.out⟩
  case round =>
    obtain ⟨i, rfl, hi, ho, hb⟩ := hrel
    have O := Lib.hid ho
    have B := Lib.hid hb
    clear ho hb O0 B0
    by_cases hlt : i < n
    · have hlt2 : (i : Int) < (n : Int) := by omega
      obtain ⟨e, he, hz⟩ := HG.out i hlt
      have R := Lib.hid (H1.out.below B.out hg)
      obtain ⟨c0, c1, c2, c3, c4, c5, c6, c7, c8, c9⟩ := R.out.ten he
      have HN := Lib.hid (take_snocE he)
      have hD := HLn.out i hi
      have hsz := small_parts hz
      clear he hz R
      generalize L.take i = D at O HN hD
      obtain ⟨gd, cd, rfl, _, _, _, _, ho⟩ := O.out.open
      have O1 := Lib.hid ho
      clear ho O
      obtain ⟨k, p, l, m, u, g0, t, us, gr, b⟩ := e
      dsimp only at hsz
      have K1 := Lib.hid (fun w => clone_any p w (by have := hsz.1; omega))
      have K2 := Lib.hid (fun w => clone_any l w (by have := hsz.2.1; omega))
      have K3 := Lib.hid (fun w => clone_any us w (by have := hsz.2.2.1; omega))
      have K4 := Lib.hid (fun w => clone_any gr w (by have := hsz.2.2.2.1; omega))
      have K5 := Lib.hid (fun w => clone_any b w (by have := hsz.2.2.2.2; omega))
      clear hsz
      have hD' := Lib.hid hD
      clear hD
      go_wp2_with fail
      refine (K1.out _).mono ?_
      rintro e w1 ⟨rfl, hb⟩
      have Q := Lib.hid (own_belowE (World.ownsRow.alloc O1.out _) hb)
      obtain ⟨k1, bb, z1⟩ := one_newF (e1 := ⟨k, p, l, m, u, g0, t, us, gr, b⟩) hb
      have E := Lib.hid k1
      have BB := Lib.hid (btE B.out bb)
      clear hb k1 bb c0 c1 c2 c3 c4 c5 c6 c7 c8 c9 O1 B
      have zw := BB.out.size
      obtain ⟨c0, c1, c2, c3, c4, c5, c6, c7, c8, c9⟩ := E.out.1.zero
      obtain ⟨f1, f2, f7, f8, f9⟩ := E.out.five
      have X := Lib.hid (setCell_same c1)
      go_wp2_with fail
      refine (K2.out _).mono ?_
      rintro e w2 ⟨rfl, hb⟩
      rw [X.out] at hb
      replace Q := Lib.hid (own_belowE Q.out hb)
      replace E := Lib.hid (E.out.below hb (by omega))
      replace BB := Lib.hid (btE BB.out hb)
      replace z1 := Nat.le_trans z1 hb.size
      clear hb c0 c1 c2 c3 c4 c5 c6 c7 c8 c9 f1 f2 f7 f8 f9 X
      obtain ⟨c0, c1, c2, c3, c4, c5, c6, c7, c8, c9⟩ := E.out.1.zero
      obtain ⟨f1, f2, f7, f8, f9⟩ := E.out.five
      have X := Lib.hid (setCell_same c2)
      go_wp2_with fail
      refine (K3.out _).mono ?_
      rintro e w3 ⟨rfl, hb⟩
      rw [X.out] at hb
      replace Q := Lib.hid (own_belowE Q.out hb)
      replace E := Lib.hid (E.out.below hb (by omega))
      replace BB := Lib.hid (btE BB.out hb)
      replace z1 := Nat.le_trans z1 hb.size
      clear hb c0 c1 c2 c3 c4 c5 c6 c7 c8 c9 f1 f2 f7 f8 f9 X
      obtain ⟨c0, c1, c2, c3, c4, c5, c6, c7, c8, c9⟩ := E.out.1.zero
      obtain ⟨f1, f2, f7, f8, f9⟩ := E.out.five
      have X := Lib.hid (setCell_same c7)
      go_wp2_with fail
      refine (K4.out _).mono ?_
      rintro e w4 ⟨rfl, hb⟩
      rw [X.out] at hb
      replace Q := Lib.hid (own_belowE Q.out hb)
      replace E := Lib.hid (E.out.below hb (by omega))
      replace BB := Lib.hid (btE BB.out hb)
      replace z1 := Nat.le_trans z1 hb.size
      clear hb c0 c1 c2 c3 c4 c5 c6 c7 c8 c9 f1 f2 f7 f8 f9 X
      obtain ⟨c0, c1, c2, c3, c4, c5, c6, c7, c8, c9⟩ := E.out.1.zero
      obtain ⟨f1, f2, f7, f8, f9⟩ := E.out.five
      have X := Lib.hid (setCell_same c8)
      go_wp2_with fail
      refine (K5.out _).mono ?_
      rintro e w5 ⟨rfl, hb⟩
      rw [X.out] at hb
      replace Q := Lib.hid (own_belowE Q.out hb)
      replace E := Lib.hid (E.out.below hb (by omega))
      replace BB := Lib.hid (btE BB.out hb)
      replace z1 := Nat.le_trans z1 hb.size
      clear hb c0 c1 c2 c3 c4 c5 c6 c7 c8 c9 f1 f2 f7 f8 f9 X
      obtain ⟨c0, c1, c2, c3, c4, c5, c6, c7, c8, c9⟩ := E.out.1.zero
      obtain ⟨f1, f2, f7, f8, f9⟩ := E.out.five
      have X := Lib.hid (setCell_same c9)
      have hD := hD'.out
      have zw5 := BB.out.size
      go_wp2_with (at_builtin; refine wpList_append_own _ rfl _ _ 24 rfl w.heap.size 51 i0 (.agg #[.int .i64 0, .string ⟨#[]⟩, .string ⟨#[]⟩, .int .i64 0, .int .i64 0, .int .i64 0, .int .i64 0, .string ⟨#[]⟩, .string ⟨#[]⟩, .string ⟨#[]⟩]) 10 120 Try.underlying24 hi0 hz0 hz1 hz2 rfl (by decide) _ D.length (entVals D) rfl ?c0b ⟨w5.heap.size, 0, none⟩ 1 1 (entVals [⟨k, p, l, m, u, g0, t, us, gr, b⟩]) rfl (entVals_len _) ?c1b ?c2b ?c3b ?c4b ?c5b ?_)
      case c0b => rw [X.out]; exact World.ownsRow.alloc Q.out _
      case c1b => rw [X.out]; first | exact ent_new _ _ _ | exact RowE.news0 (ent_new _ _ _)
      case c2b => exact entVals_onecell _
      case c3b => (try simp only [List.length_nil]); simp only [maxLen]; omega
      case c4b => (try simp only [List.length_nil]); omega
      case c5b => rw [X.out]; simp; omega
      · intro v' w6 hown' hgrow hnil
        rw [X.out] at hgrow
        have hO : OwnE w6 w.heap.size v' (D ++ [⟨k, p, l, m, u, g0, t, us, gr, b⟩]) := ownE_app hown' rfl rfl hnil
        rw [← HN.out] at hO
        have hBl : Below w.heap.size w w6 := (BB.out.alloc zw5 _).grown hgrow (by simp; omega) (fun b hb => (World.ownsRow.lt Q.out b hb).1)
        clear hown' hgrow hnil c0 c1 c2 c3 c4 c5 c6 c7 c8 c9 f1 f2 f7 f8 f9 X
        have HO2 := Lib.hid hO
        have HB2 := Lib.hid hBl
        clear hO hBl
        go_wp2_with fail
        go_roundw
        case rel => exact ⟨i + 1, by go_num, by omega, HO2.out, HB2.out⟩
        case measure => simp [intOf]; omega
    · obtain rfl : i = n := by omega
      have hlt2 : ¬ (i : Int) < (i : Int) := by omega
      rw [HF.out] at O
      go_wp2_with fail
      go_ret
      exact ⟨_, rfl, O.out, B.out⟩
end Go.Proofs.Ytlbkojiengofeab
