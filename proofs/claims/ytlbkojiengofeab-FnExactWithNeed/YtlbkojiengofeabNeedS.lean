/- Contract of spec.Need. -/
import Derived.Test.YtlbkojiengofeabNeedMath
import Derived.Test.YtlbkojiengofeabSizeE
namespace Go.Proofs.Ytlbkojiengofeab
open Go.ChangeShapes Go.WideShapes Go.ChangeAt Go.RowKit Go.Deep

theorem OwnL.openS {w : World} {base : Nat} {v : Value} {L : List ByteArray} (h : OwnL w base v L) : ∃ g cap, v = .slice (some ⟨g, 0, none⟩) L.length cap ∧ CellsS w g L ∧ g < w.heap.size ∧ base ≤ g := by
  obtain ⟨ho, g, cap, rfl⟩ := h
  exact ⟨g, cap, rfl, own_cellsS ho, (World.ownsRow.lt ho g rfl).2, (World.ownsRow.lt ho g rfl).1⟩
theorem OwnL.weakS {w : World} {base base' : Nat} {v : Value} {L : List ByteArray} (h : OwnL w base v L) (hb : base' ≤ base) : OwnL w base' v L := by
  refine ⟨⟨h.1.1, ?_⟩, h.2⟩
  rcases h.1.2 with h' | ⟨g', cap', cur, h', hx, rest⟩
  · exact .inl h'
  · exact .inr ⟨g', cap', cur, h', Nat.le_trans hb hx, rest⟩
theorem OwnL.litS {w : World} {base : Nat} (hb : base ≤ w.heap.size) : OwnL (w.alloc (.cells #[] 9)) base (.slice (some ⟨w.heap.size, 0, none⟩) 0 0) [] := ⟨World.ownsRow_lit w #[] 0 hb (by simp) rfl, _, _, rfl⟩
theorem CellsS.at {w : World} {g : Nat} {D : List ByteArray} (h : CellsS w g D) {k : Nat} {x : ByteArray} (hx : D[k]? = some x) : w.cell? ⟨g, k, none⟩ = some (.string x) := h k _ (by simp [strVals, hx])
theorem take_snocS {P : List ByteArray} {k : Nat} {x : ByteArray} (h : P[k]? = some x) (ds : List ByteArray) : ds ++ P.take (k + 1) = (ds ++ P.take k) ++ [x] := by
  rw [List.take_add_one, h]; simp
theorem step_yes {L : List Ent} {D : List ByteArray} {d : ByteArray} (h : findv L d < 0) : specStep L D d = addv D d := by rw [specStep, if_pos h]
theorem step_no {L : List Ent} {D : List ByteArray} {d : ByteArray} (h : ¬ findv L d < 0) : specStep L D d = D := by rw [specStep, if_neg h]
theorem cands_tot (L : List Ent) (i : Nat) {e : Ent} (he : L[i]? = some e) : (candsTo L i).length + (parentsv e.path).length ≤ totL L := by
  have h1 := cands_len L (i + 1)
  rw [candsTo_step he] at h1
  have h2 := totL_take L (i + 1)
  simp only [totL] at h2 ⊢
  simp only [List.length_append] at h1
  omega
theorem needTo_len (L : List Ent) (ds : List ByteArray) : (needTo L ds).length ≤ ds.length := by
  have := foldS_len L ds []
  simpa [needTo] using this
set_option maxHeartbeats 1600000 in
set_option maxRecDepth 8000 in
theorem need_spec (L : List Ent) (n g cap : Nat) (w : World) (hn : n = L.length) (hm : n ≤ 1048576) (hg : g < w.heap.size) (hsm : SmallL L) (ht : totL L ≤ 2097152) (h1 : RowE w g L) :
    Calls Try.prog 14 #[.slice (some ⟨g, 0, none⟩) n cap] w fun e w' => ∃ v, e = .returned v ∧ OwnL w' w.heap.size v (needv L) ∧ Below w.heap.size w w' := by
  have H1 := Lib.hid h1
  have HG : Hid (∀ i, i < n → ∃ e, L[i]? = some e ∧ e.path.size ≤ 4194304) := Lib.hid (fun i hi => by obtain ⟨e, he⟩ := getE' (L := L) (i := i) (by omega); exact ⟨e, he, (small_parts (hsm.get he)).1⟩)
  have HF := Lib.hid (fun p w (hg : g < w.heap.size) (h : RowE w g L) => find_spec L p n g cap w hn (by omega) hg h)
  have HD : Hid (needv L = needTo L (candsTo L n)) := Lib.hid (by rw [hn]; rfl)
  have HT : Hid (∀ (i : Nat) (e : Ent), L[i]? = some e → (parentsv e.path).length ≤ 2097152 ∧ ∀ k, (needTo L (candsTo L i ++ (parentsv e.path).take k)).length ≤ 2097152) := Lib.hid (fun i e he => ⟨by have h2 := cands_tot L i he; omega, fun k => by
    have h1 := needTo_len L (candsTo L i ++ (parentsv e.path).take k)
    have h2 := cands_tot L i he
    simp only [List.length_append, List.length_take] at h1
    omega⟩)
  have HZ : Hid (candsTo L 0 = []) := Lib.hid (by simp [candsTo])
  generalize needv L = r at HD
  clear h1 hn hsm ht
  go_enter Try.func14, Try.ntmps14
  go_wp2_with fail
  go_loopw [3, 4, 5, 6] (fun v u _ _ wr => ∃ i : Nat, u = .int .i64 i ∧ i ≤ n ∧ OwnL wr w.heap.size v (needTo L (candsTo L i)) ∧ Below w.heap.size w wr) (fun _ u _ _ _ => n - (intOf u).toNat)
  case atStart => exact ⟨0, rfl, Nat.zero_le _, by rw [HZ.out]; exact OwnL.litS (Nat.le_refl _), (Below.refl _ _).alloc (Nat.le_refl _) _⟩
  case round =>
    obtain ⟨i, rfl, hi, ho, hb⟩ := hrel
    have O := Lib.hid ho
    have B := Lib.hid hb
    clear ho hb
    by_cases hlt : i < n
    · have hlt2 : (i : Int) < (n : Int) := by omega
      obtain ⟨e, he, hz⟩ := HG.out i hlt
      have R := Lib.hid (H1.out.below B.out hg)
      obtain ⟨c0, c1, c2, c3, c4, c5, c6, c7, c8, c9⟩ := R.out.ten he
      have HS := Lib.hid (candsTo_step he)
      obtain ⟨hPl, hTe⟩ := HT.out i e he
      have HTe := Lib.hid hTe
      have HP := Lib.hid (fun w => parents_spec e.path w hz)
      clear he c0 c2 c3 c4 c5 c6 c7 c8 c9 HT HG R hTe
      generalize parentsv e.path = P at HS HTe HP hPl
      generalize e.path = p at c1 HP
      obtain ⟨ds, hds⟩ : ∃ ds, candsTo L i = ds := ⟨_, rfl⟩
      rw [hds] at O HS HTe
      clear hds
      go_wp2_with fail
      refine (HP.out _).mono ?_
      rintro e1 w1 ⟨v5, rfl, hp, hb⟩
      obtain ⟨gp, cp, rfl, hc, zp, _⟩ := hp.openS
      have CP := Lib.hid hc
      have O1 := Lib.hid (OwnL.keep O.out hb)
      have B1 := Lib.hid (btE B.out hb)
      clear hp hc hb O B c1 HP
      go_wp2_with fail
      go_loopw [3, 6] (fun v u w2 => ∃ k : Nat, u = .int .i64 k ∧ k ≤ P.length ∧ OwnL w2 w.heap.size v (needTo L (ds ++ P.take k)) ∧ CellsS w2 gp P ∧ gp < w2.heap.size ∧ Below w.heap.size w w2) (fun _ u _ => P.length - (intOf u).toNat)
      case atStart => exact ⟨0, rfl, Nat.zero_le _, by simpa using O1.out, CP.out, zp, B1.out⟩
      case round =>
        obtain ⟨k, rfl, hk, ho, hc, zc, hb⟩ := hrel
        have O2 := Lib.hid ho
        have C2 := Lib.hid hc
        have B2 := Lib.hid hb
        clear ho hc hb O1 B1 CP
        by_cases hlk : k < P.length
        · have hlk2 : (k : Int) < (P.length : Int) := by omega
          have hD := HTe.out k
          obtain ⟨x, hx⟩ : ∃ x, P[k]? = some x := ⟨_, List.getElem?_eq_getElem hlk⟩
          have c := C2.out.at hx
          have HN := Lib.hid (take_snocS hx ds)
          have HY := Lib.hid (fun h => step_yes (L := L) (D := needTo L (ds ++ P.take k)) (d := x) h)
          have HNo := Lib.hid (fun h => step_no (L := L) (D := needTo L (ds ++ P.take k)) (d := x) h)
          have HSn := Lib.hid (needTo_snoc L (ds ++ P.take k) x)
          have HFx := Lib.hid (HF.out x)
          have HXk := Lib.hid hx
          clear hx
          generalize findv L x = f at HY HNo HFx
          generalize hDD : needTo L (ds ++ P.take k) = D at O2 HY HNo HSn hD
          clear hDD
          obtain ⟨gd, cd, rfl, _, _, _⟩ := O2.out.openS
          have R2 := Lib.hid (H1.out.below B2.out hg)
          have hsz := B2.out.size
          have zg : g < wr.heap.size := by omega
          go_wp2_with fail
          refine (HFx.out _ zg R2.out).mono ?_
          rintro e2 w3 ⟨rfl, hb⟩
          have O3 := Lib.hid (OwnL.keep O2.out hb)
          have C3 := Lib.hid (C2.out.below hb zc)
          have B3 := Lib.hid (btE B2.out hb)
          have zc3 := Nat.lt_of_lt_of_le zc hb.size
          have c3 := C3.out.at HXk.out
          clear hb O2 C2 B2 R2 HFx c
          have hsz3 := B3.out.size
          by_cases hf : f < 0
          · have HA := Lib.hid (add_spec D x gd cd w.heap.size w3 (by omega) hsz3 O3.out)
            have HE : Hid (needTo L (ds ++ P.take (k + 1)) = addv D x) := Lib.hid (by rw [HN.out, HSn.out, HY.out hf])
            clear HY HNo HSn HN
            go_wp2_with fail
            refine HA.out.mono ?_
            rintro e3 w4 ⟨v4, rfl, ho, hb⟩
            rw [← HE.out] at ho
            have O4 := Lib.hid ho
            have C4 := Lib.hid (C3.out.below hb zc3)
            have B4 := Lib.hid (btE B3.out hb)
            have zc4 := Nat.lt_of_lt_of_le zc3 hb.size
            clear ho hb O3 C3 B3 HA HE
            go_wp2_with fail
            go_roundw
            case rel => exact ⟨k + 1, by go_num, by omega, O4.out, C4.out, zc4, B4.out⟩
            case measure => simp [intOf]; omega
          · have HE : Hid (needTo L (ds ++ P.take (k + 1)) = D) := Lib.hid (by rw [HN.out, HSn.out, HNo.out (by omega)])
            have O4 : Hid (OwnL w3 w.heap.size (.slice (some ⟨gd, 0, none⟩) D.length cd) (needTo L (ds ++ P.take (k + 1)))) := Lib.hid (by rw [HE.out]; exact O3.out)
            clear HY HNo HSn HN HE
            go_wp2_with fail
            go_roundw
            case rel => exact ⟨k + 1, by go_num, by omega, O4.out, C3.out, zc3, B3.out⟩
            case measure => simp [intOf]; omega
        · obtain rfl : k = P.length := by omega
          have hlk2 : ¬ (P.length : Int) < (P.length : Int) := by omega
          have HE : Hid (ds ++ P.take P.length = candsTo L (i + 1)) := Lib.hid (by rw [List.take_length, HS.out])
          rw [HE.out] at O2
          go_wp2_with fail
          go_roundw
          case rel => exact ⟨i + 1, by go_num, by omega, O2.out, B2.out⟩
          case measure => simp [intOf]; omega
    · obtain rfl : i = n := by omega
      have hlt2 : ¬ (i : Int) < (i : Int) := by omega
      rw [← HD.out] at O
      go_wp2_with fail
      go_ret
      exact ⟨_, rfl, O.out, B.out⟩
end Go.Proofs.Ytlbkojiengofeab
