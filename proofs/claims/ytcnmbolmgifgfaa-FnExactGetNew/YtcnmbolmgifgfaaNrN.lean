/- Contract of impl.(*newcReader).takeNumbers. -/
import Derived.Test.YtcnmbolmgifgfaaNrI
import Derived.Test.YtcnmbolmgifgfaaEqZ4
namespace Go.Proofs.Ytcnmbolmgifgfaa
open Go.ChangeShapes Go.WideShapes Go.ChangeAt Go.RowKit Go.Deep

theorem idxR13 (gh k : Nat) (hk : k < 13) (w : World) : (Instr.index 73 (.agg (ptrsN gh)) (.int .i64 (k : Int))).run Try.prog w = .ok (.pointer (some ⟨gh, offn k, none⟩)) w := by
  have h := ptrsN_at gh k hk
  have hk2 : (0 : Int) ≤ (k : Int) ∧ (k : Int) < 13 := by omega
  have hu := Try.underlying73
  have he := Try.underlying72
  have hsz : ∀ w, (sizeOf 72).run Try.prog w = .ok 1 w := fun w => by go_simp
  simp [Instr.index, run_underlying hu, asIntOf, hk2, part, isAgg, run_underlying he, hsz, go_sem, h]
  intro h9
  omega
/-- The reader when k numbers are read. -/
def nrF (N : Nat → Int) (crc : Bool) (r : ByteArray) (k : Nat) : Nr :=
  ⟨if 0 < k then N 0 else 0, if 1 < k then N 1 else 0, if 2 < k then N 2 else 0, if 3 < k then N 3 else 0, if 4 < k then N 4 else 0, if 5 < k then N 5 else 0, ⟨#[]⟩, ⟨#[]⟩, if 6 < k then N 6 else 0, if 7 < k then N 7 else 0, if 8 < k then N 8 else 0, if 9 < k then N 9 else 0, if 10 < k then N 10 else 0, if 11 < k then N 11 else 0, if 12 < k then N 12 else 0, crc, r, ⟨#[]⟩, ⟨#[]⟩, ⟨#[]⟩⟩
theorem nrF_step (N : Nat → Int) (crc : Bool) (r : ByteArray) : ∀ k, k < 13 → (nrF N crc r k).cells.setIfInBounds (offn k) (.int .i64 (N k)) = (nrF N crc r (k + 1)).cells := by
  intro k hk
  match k, hk with
  | 0, _ => simp [nrF, Nr.cells, offn]
  | 1, _ => simp [nrF, Nr.cells, offn]
  | 2, _ => simp [nrF, Nr.cells, offn]
  | 3, _ => simp [nrF, Nr.cells, offn]
  | 4, _ => simp [nrF, Nr.cells, offn]
  | 5, _ => simp [nrF, Nr.cells, offn]
  | 6, _ => simp [nrF, Nr.cells, offn]
  | 7, _ => simp [nrF, Nr.cells, offn]
  | 8, _ => simp [nrF, Nr.cells, offn]
  | 9, _ => simp [nrF, Nr.cells, offn]
  | 10, _ => simp [nrF, Nr.cells, offn]
  | 11, _ => simp [nrF, Nr.cells, offn]
  | 12, _ => simp [nrF, Nr.cells, offn]
  | k + 13, hk => omega
def nrK (s : ByteArray) (j : Nat) (crc : Bool) (k : Nat) : Nr := nrF (nN s j) crc (s.extract (j + 6 + 8 * k) s.size) k
def nrK' (s : ByteArray) (j : Nat) (crc : Bool) (k : Nat) : Nr := nrF (nN s j) crc (s.extract (j + 6 + 8 * (k + 1)) s.size) k
theorem nrK_step (s : ByteArray) (j : Nat) (crc : Bool) (k : Nat) (hk : k < 13) : (nrK' s j crc k).cells.setIfInBounds (offn k) (.int .i64 (nN s j k)) = (nrK s j crc (k + 1)).cells := nrF_step _ _ _ k hk
theorem nrK_13 (s : ByteArray) (j : Nat) (crc : Bool) : nrK s j crc 13 = ⟨nN s j 0, nN s j 1, nN s j 2, nN s j 3, nN s j 4, nN s j 5, ⟨#[]⟩, ⟨#[]⟩, nN s j 6, nN s j 7, nN s j 8, nN s j 9, nN s j 10, nN s j 11, nN s j 12, crc, s.extract (j + 110) s.size, ⟨#[]⟩, ⟨#[]⟩, ⟨#[]⟩⟩ := by simp [nrK, nrF]
theorem offn_lt : ∀ k, k < 13 → offn k < 20 := by decide
theorem NrO.some {w : World} {g : Nat} {x : Nr} (h : NrO w g x) (i : Nat) (hi : i < 20) : ∃ v, w.cell? ⟨g, i, none⟩ = some v :=
  ⟨x.cells[i]'(by show i < 20; exact hi), h.cell i _ (Array.getElem?_eq_getElem _)⟩
theorem take_nrK (s : ByteArray) (j : Nat) (crc : Bool) (k : Nat) (hk : k < 13) (hj : j + 110 ≤ s.size) (g : Nat) (w : World) (h : NrO w g (nrK s j crc k)) :
    Calls Try.prog 56 #[.pointer (some ⟨g, 0, none⟩), .int .i64 8] w fun e w' => e = .returned (.string (nB s j k)) ∧ NrO w' g (nrK' s j crc k) ∧ Below g w w' := by
  have hz : (nrK s j crc k).rest = s.extract (j + 6 + 8 * k) s.size := rfl
  have hzz : (s.extract (j + 6 + 8 * k) s.size).size = s.size - (j + 6 + 8 * k) := by rw [ByteArray.size_extract]; omega
  have e1 := ext_preN s (j + 6 + 8 * k) 8 s.size (by omega) (Nat.le_refl _)
  have e2 := ext_sufN s (j + 6 + 8 * k) 8 s.size (by omega) (Nat.le_refl _)
  have h9 := take_any g (nrK s j crc k) 8 w h (by rw [hz, hzz]; omega)
  rw [hz, e1, e2] at h9
  rw [show nB s j k = s.extract (j + 6 + 8 * k) (j + 6 + 8 * k + 8) from by unfold nB; rw [show j + 14 + 8 * k = j + 6 + 8 * k + 8 from by omega]]
  rw [show nrK' s j crc k = { nrK s j crc k with rest := s.extract (j + 6 + 8 * k + 8) s.size } from by unfold nrK' nrK nrF; rw [show j + 6 + 8 * (k + 1) = j + 6 + 8 * k + 8 from by omega]]
  exact h9
def tnC (s : ByteArray) (j : Nat) : Int := if allN s j = true ∧ (nN s j 7 = 0 ∧ nN s j 8 = 0 ∧ nN s j 9 = 0 ∧ nN s j 10 = 0) then 0 else 3
set_option maxHeartbeats 3200000 in
set_option maxRecDepth 8000 in
theorem takeNumbers_any (s : ByteArray) (j : Nat) (crc : Bool) (g : Nat) (w : World) (hj : j + 110 ≤ s.size) (h : NrO w g (nrK s j crc 0)) :
    Calls Try.prog 33 #[.pointer (some ⟨g, 0, none⟩)] w fun e w' => e = .returned (.int .i64 (tnC s j)) ∧ (tnC s j = 0 → NrO w' g (nrK s j crc 13)) ∧ Below g w w' := by
  have HTk := Lib.hid (fun k hk w h => take_nrK s j crc k hk hj g w h)
  have HGx := Lib.hid (fun k w => getHex_impl (nB s j k) w (by unfold nB; rw [ByteArray.size_extract]; omega))
  have HBad : Hid (∀ k, k < 13 → nO s j k = false → tnC s j = 3) := Lib.hid (fun k hk h => by rw [tnC, if_neg (by rw [allN_bad hk h]; simp)])
  have HZ1 : Hid ((∀ k, k < 13 → nO s j k = true) → (nN s j 7 = 0 ∧ nN s j 8 = 0 ∧ nN s j 9 = 0 ∧ nN s j 10 = 0) → tnC s j = 0) := Lib.hid (fun h hz => by rw [tnC, if_pos ⟨allN_good h, hz⟩])
  have HZ2 : Hid (¬ (nN s j 7 = 0 ∧ nN s j 8 = 0 ∧ nN s j 9 = 0 ∧ nN s j 10 = 0) → tnC s j = 3) := Lib.hid (fun hz => by rw [tnC, if_neg (fun h => hz h.2)])
  have HSt := Lib.hid (nrK_step s j crc)
  have HX0 := Lib.hid h
  have hgl := h.lt
  have HIx := Lib.hid (fun k hk w => idxR13 g k hk w)
  generalize tnC s j = C at HBad HZ1 HZ2 ⊢
  clear h hj
  go_enter Try.func33, Try.ntmps33
  go_wp2_with fail
  refine (fieldsN_any g _).mono ?_
  rintro e w1 ⟨rfl, hb⟩
  have B := Lib.hid (hb.mono (Nat.le_of_lt hgl))
  have X1 := Lib.hid (HX0.out.below hb hgl)
  clear hb HX0
  generalize ptrsN g = pt at HIx ⊢
  go_wp2_with fail
  go_loopw [4, 5, 6, 11] (fun _ _ _ u wr => ∃ k : Nat, u = .int .i64 k ∧ k ≤ 13 ∧ (∀ m, m < k → nO s j m = true) ∧ NrO wr g (nrK s j crc k) ∧ Below g w wr) (fun _ _ _ u _ => 13 - (intOf u).toNat)
  case atStart => exact ⟨0, rfl, Nat.zero_le _, fun m hm => by omega, X1.out, B.out⟩
  case round =>
    obtain ⟨k, rfl, hk, hok, hx, hb⟩ := hrel
    clear X1 B
    have B := Lib.hid hb
    have X := Lib.hid hx
    have OK := Lib.hid hok
    clear hok hx hb
    by_cases hlt : k < 13
    · have hlt2 : (k : Int) < 13 := by omega
      have hIx := HIx.out k hlt
      have HT2 := Lib.hid (HTk.out k hlt)
      have HGo := Lib.hid (HGx.out k)
      rw [show (getHexv (nB s j k).data.toList).1 = nN s j k from rfl, show (getHexv (nB s j k).data.toList).2 = nO s j k from rfl] at HGo
      have HBk := Lib.hid (HBad.out k hlt)
      have HOn : Hid (nO s j k = true → ∀ m, m < k + 1 → nO s j m = true) := Lib.hid (fun h m hm => by
        by_cases e : m = k
        · subst e; exact h
        · exact OK.out m (by omega))
      have HS2 := Lib.hid (HSt.out k hlt)
      have ho20 := offn_lt k hlt
      generalize nN s j k = x at HGo HS2
      generalize nO s j k = o at HGo HBk HOn
      generalize nB s j k = bb at HT2 HGo
      generalize offn k = oi at hIx HS2 ho20
      clear HTk HGx HBad HIx HSt
      go_wp2_with fail
      refine (HT2.out _ X.out).mono ?_
      rintro e w2 ⟨rfl, hx, hb⟩
      have X2 := Lib.hid hx
      have B2 := Lib.hid (B.out.trans hb)
      clear hx hb X B HT2 hIx
      go_wp2_with fail
      refine (HGo.out _).mono ?_
      rintro e w3 ⟨rfl, rfl⟩
      cases o with
      | false =>
        have HF : Hid (C = 3) := Lib.hid (HBk.out rfl)
        clear HBk HOn HGo
        go_wp2_with fail
        go_ret
        exact ⟨by rw [HF.out]; rfl, fun h0 => absurd (HF.out.symm.trans h0) (by decide), B2.out⟩
      | true =>
        have HOn2 := Lib.hid (HOn.out rfl)
        obtain ⟨cv, hcell⟩ := X2.out.some oi ho20
        have hfz := X2.out.fz oi
        have X3 := Lib.hid (X2.out.set (y := nrK s j crc (k + 1)) oi (.int .i64 x) HS2.out)
        have B3 := Lib.hid (nr_set B2.out oi (.int .i64 x))
        clear HBk HOn HGo X2 B2 HS2
        go_wp2_with fail
        go_roundw
        case rel => exact ⟨k + 1, by go_num, by omega, HOn2.out, X3.out, B3.out⟩
        case measure => simp [intOf]; omega
    · obtain rfl : k = 13 := by omega
      have hlt2 : ¬ ((13 : Nat) : Int) < 13 := by omega
      have X0 := X.out
      rw [nrK_13] at X0
      have c9 := X0.cell 9 (.int .i64 (nN s j 7)) rfl
      have c10 := X0.cell 10 (.int .i64 (nN s j 8)) rfl
      have c11 := X0.cell 11 (.int .i64 (nN s j 9)) rfl
      have c12 := X0.cell 12 (.int .i64 (nN s j 10)) rfl
      have HEq := fun w => ne_zeros4 (nN s j 7) (nN s j 8) (nN s j 9) (nN s j 10) w
      have HZ3 := Lib.hid (HZ1.out OK.out)
      clear HTk HGx HBad HIx HSt HZ1 OK X0
      generalize nN s j 7 = x0 at *
      generalize nN s j 8 = x1 at *
      generalize nN s j 9 = x2 at *
      generalize nN s j 10 = x3 at *
      by_cases hz : x0 = 0 ∧ x1 = 0 ∧ x2 = 0 ∧ x3 = 0
      · have hq : (decide (x0 = 0) && (decide (x1 = 0) && (decide (x2 = 0) && decide (x3 = 0)))) = true := by simpa using hz
        have HF : Hid (C = 0) := Lib.hid (HZ3.out hz)
        rw [hq] at HEq
        clear HZ2 HZ3 hz hq
        go_wp2_with fail
        go_ret
        exact ⟨by rw [HF.out]; rfl, fun _ => X.out, B.out⟩
      · have hq : (decide (x0 = 0) && (decide (x1 = 0) && (decide (x2 = 0) && decide (x3 = 0)))) = false := by
          have := hz
          cases h : (decide (x0 = 0) && (decide (x1 = 0) && (decide (x2 = 0) && decide (x3 = 0))))
          · rfl
          · exact absurd (by simpa using h) hz
        have HF : Hid (C = 3) := Lib.hid (HZ2.out hz)
        rw [hq] at HEq
        clear HZ2 HZ3 hz hq
        go_wp2_with fail
        go_ret
        exact ⟨by rw [HF.out]; rfl, fun h0 => absurd (HF.out.symm.trans h0) (by decide), B.out⟩
end Go.Proofs.Ytcnmbolmgifgfaa
