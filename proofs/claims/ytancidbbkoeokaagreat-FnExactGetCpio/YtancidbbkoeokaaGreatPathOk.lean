/- Contracts of spec.PathOk and impl.PathOk. -/
import Derived.Test.YtancidbbkoeokaaGreatComps
import Derived.Test.YtancidbbkoeokaaGreatPartOk
import Derived.Test.YtancidbbkoeokaaGreatPartsS
namespace Go.Proofs.YtancidbbkoeokaaGreat
open Go.RowKit Go.Shelf

def pathOkv (s : ByteArray) : Bool := decide (s.size ≤ 200) && (partsv s).all partOkv
theorem pathOk_long {s : ByteArray} (h : ¬ s.size ≤ 200) : pathOkv s = false := by simp [pathOkv, h]
theorem pathOk_bad {s x : ByteArray} (h : x ∈ partsv s) (hx : partOkv x = false) : pathOkv s = false := by
  cases hp : pathOkv s with
  | false => rfl
  | true =>
    simp only [pathOkv, Bool.and_eq_true, List.all_eq_true] at hp
    rw [hp.2 x h] at hx; cases hx
theorem pathOk_good {s : ByteArray} (h : s.size ≤ 200) (hx : ∀ x ∈ partsv s, partOkv x = true) : pathOkv s = true := by
  simp only [pathOkv, Bool.and_eq_true, List.all_eq_true]
  exact ⟨by simpa using h, hx⟩
def AllTo (L : List ByteArray) (k : Nat) : Prop := ∀ j, j < k → partOkv (rowOf L j) = true
theorem AllTo.step {L : List ByteArray} {k : Nat} (h : AllTo L k) (hk : partOkv (rowOf L k) = true) : AllTo L (k + 1) := by
  intro j hj
  by_cases e : j = k
  · subst e; exact hk
  · exact h j (by omega)
theorem AllTo.all {L : List ByteArray} (h : AllTo L L.length) : ∀ x ∈ L, partOkv x = true := by
  intro x hx
  obtain ⟨i, hi, rfl⟩ := List.getElem_of_mem hx
  have := h i hi
  simpa [rowOf, List.getD, List.getElem?_eq_getElem hi] using this
theorem rowOf_mem {L : List ByteArray} {k : Nat} (h : k < L.length) : rowOf L k ∈ L := by
  simp [rowOf, List.getD, List.getElem?_eq_getElem h]

theorem pathOk_spec (s : ByteArray) (w : World) (hs : s.size ≤ 4194304) :
    Calls Tryz.prog 57 #[.string s] w fun e w' => e = .returned (.bool (pathOkv s)) ∧ Below w.heap.size w w' := by
  have H := Lib.hid (fun w => parts_spec s w hs)
  have HZ := Lib.hid (partsv_size s)
  have hl := partsv_le s
  have HB := Lib.hid (fun x => pathOk_bad (s := s) (x := x))
  have HG := Lib.hid (pathOk_good (s := s))
  have HL := Lib.hid (pathOk_long (s := s))
  generalize partsv s = L at H HZ HB HG hl
  generalize pathOkv s = b at HB HG HL
  generalize hn : L.length = n at hl
  have hn2 : (n : Int) ≤ 4194305 := by omega
  have HN := Lib.hid hn
  clear hn hl
  go_enter Tryz.func57, Tryz.ntmps57
  go_wp2_with fail
  refine (H.out _).mono ?_
  rintro e w1 ⟨v, rfl, ⟨ho1, g1, cap1, rfl⟩, hb1⟩
  have R1 := Lib.hid (OwnT.rowF ho1)
  have B1 := Lib.hid hb1
  rw [HN.out] at R1 ⊢
  clear ho1 hb1
  go_wp2_with fail
  go_loop [4] (fun u => ∃ (k : Nat), k ≤ n ∧ u = .int .i64 k ∧ AllTo L k) (fun u => n - (intOf u).toNat)
  case atStart => exact ⟨0, Nat.zero_le _, rfl, fun j h => by omega⟩
  case round =>
    obtain ⟨k, hk, rfl, ho⟩ := hrel
    have HO := Lib.hid ho
    clear ho
    by_cases hlt : k < n
    · have hlt2 : (k : Int) < (n : Int) := by omega
      have hc := R1.out k hlt
      have HM := Lib.hid (rowOf_mem (L := L) (k := k) (by rw [HN.out]; exact hlt))
      have HP := Lib.hid (fun w => partOk_spec (rowOf L k) w (by have := HZ.out _ HM.out; omega))
      have HS := Lib.hid (fun h => AllTo.step HO.out (k := k) h)
      have HBk := Lib.hid (fun h => HB.out _ HM.out h)
      clear HM HO
      generalize rowOf L k = x at hc HP HS HBk
      cases hx : partOkv x with
      | true =>
        have HS2 := Lib.hid (HS.out hx)
        rw [hx] at HP
        clear hx HS HBk
        go_wp2_with fail
        refine (HP.out _).mono ?_
        rintro e w' ⟨rfl, rfl⟩
        go_wp2_with fail
        go_round
        case rel => exact ⟨k + 1, by omega, by go_num, HS2.out⟩
        case measure => simp [intOf]; omega
      | false =>
        have HS2 := Lib.hid (HBk.out hx)
        rw [hx] at HP
        clear hx HS HBk
        go_wp2_with fail
        refine (HP.out _).mono ?_
        rintro e w' ⟨rfl, rfl⟩
        go_wp2_with fail
        go_ret
        exact ⟨ret_bool HS2.out.symm, B1.out⟩
    · obtain rfl : k = n := by omega
      by_cases h2 : (s.size : Int) ≤ 200
      · have HX := Lib.hid (HG.out (by omega) (by have := HO.out; rw [← HN.out] at this; exact this.all))
        go_wp2_with fail
        go_ret
        exact ⟨ret_bool HX.out.symm, B1.out⟩
      · have HX := Lib.hid (HL.out (by omega))
        go_wp2_with fail
        go_ret
        exact ⟨ret_bool HX.out.symm, B1.out⟩

attribute [local go_sem] Oper.semAt_some

set_option maxRecDepth 100000 in
set_option maxHeartbeats 2000000 in
theorem pathOk_impl (s : ByteArray) (w : World) (hs : s.size ≤ 9223372036854775806) :
    Calls Tryz.prog 97 #[.string s] w fun e w' => e = .returned (.bool (pathOkv s)) ∧ Below w.heap.size w w' := by
  refine (callsIn_wide (n := 4)).1 ?_
  have HS := Lib.hid hs
  by_cases hlen : (s.size : Int) ≤ 200
  · refine callsIn_of_wp_marks Tryz.func97 rfl trivial ?_ rfl
    simp only [Tryz.ntmps97, List.size_toArray, List.length_cons, List.length_nil, Nat.reduceAdd, Nat.reduceSub, Array.replicate_succ, Array.replicate_zero, List.push_toArray, List.append_toArray, List.nil_append, List.cons_append]
    gi_wp2_with fail
    refine ⟨trivial, (comps_make _ _ _).mono ?_⟩
    rintro e w' ⟨rfl, rfl⟩
    gi_wp2_with fail
    have b1 := Boxed.new w 4 (.bool false)
    have b2 := Boxed.new (w.alloc (.cells #[.bool false] 4)) 9 (.string s)
    rw [World.size_alloc] at b2
    have hB0 : Below w.heap.size w ((w.alloc (.cells #[.bool false] 4)).alloc (.cells #[.string s] 9)) := ((Below.refl _ w).alloc (Nat.le_refl _) _).alloc (by simp) _
    refine wpIn_rangeFunc_ownG rfl (by omega) (gf := 116) (lb := #[.pointer (some ⟨w.heap.size + 1, 0, none⟩)]) rfl trivial (enters_of Tryz.func116 (by kernel_rfl) rfl)
      (comps_stops _ (w.heap.size + 1) w.heap.size s _ HS.out (by simp) b2.cell) belowK_t (belowK_b (by simp; omega)) (Below.refl _ _) (fun _ => rfl)
      (fun pre W => ((∀ y ∈ pre, partOkv y = true) ∧ Boxed W w.heap.size 4 (.bool false)) ∧ Below w.heap.size w W)
      (fun c pre W => ((c = .ret ∧ ∃ y ∈ pre, partOkv y = false) ∧ Boxed W w.heap.size 4 (.bool false)) ∧ Below w.heap.size w W)
      (OwnFrom.and (OwnFrom.and (ownFrom_pure _ _) (Own.from (boxed_own _ _ (fun _ => .bool false)) _)) (ownFrom_below (Nat.le_refl _) (by simp; omega)))
      (fun c => OwnFrom.and (OwnFrom.and (ownFrom_pure _ _) (Own.from (boxed_own _ _ (fun _ => .bool false)) _)) (ownFrom_below (Nat.le_refl _) (by simp; omega)))
      ⟨⟨by simp, b1.alloc _⟩, hB0⟩
      (fun x => { tmps := #[.string s, undef, .pointer (some ⟨w.heap.size, 0, none⟩), .string x, .string s, .int .i64 s.size, .bool (decide ((200 : Int) < (s.size : Int))), .string s, .func (.func 116) #[] #[.pointer (some ⟨w.heap.size + 1, 0, none⟩)], .string x, undef, undef, undef], defers := [] }) ?assign ?body ?done ?stop
    case assign =>
      intro l x W K hK
      gi_wp2
      exact hK
    case body =>
      rintro l pre x W ⟨⟨hp, hbx⟩, hB⟩ hlt
      have hcr := hbx.cell
      have hfr := hbx.frozen
      have HBX := Lib.hid hbx
      clear hbx
      have HC := Lib.hid (fun w => CallsIn.inRound l ((callsIn_wide (n := 1)).2 (partOk_impl x w)))
      have HB := Lib.hid hB
      have HPre := Lib.hid hp
      clear hB hp
      cases hx : partOkv x with
      | true =>
        have HN : Hid (∀ y ∈ pre ++ [x], partOkv y = true) := Lib.hid (fun y hy => (List.mem_append.1 hy).elim (HPre.out y) (fun e => by simp at e; subst e; exact hx))
        rw [hx] at HC
        clear hx
        gi_wp2_with fail
        refine ⟨trivial, (HC.out _).mono ?_⟩
        rintro e w' ⟨rfl, rfl⟩
        gi_wp2_with fail
        exact ⟨KeepsFrom.refl _ _, Below.refl _ _, ⟨HN.out, HBX.out⟩, HB.out⟩
      | false =>
        have HN : Hid (∃ y ∈ pre ++ [x], partOkv y = false) := Lib.hid ⟨x, by simp, hx⟩
        rw [hx] at HC
        clear hx
        gi_wp2_with fail
        refine ⟨trivial, (HC.out _).mono ?_⟩
        rintro e w' ⟨rfl, rfl⟩
        gi_wp2_with fail
        exact ⟨(KeepsOthers.setCell _ _ _).from _, ⟨⟨rfl, HN.out⟩, HBX.out.set _⟩, HB.out.setCell (p := ⟨w.heap.size, 0, none⟩) (Nat.le_refl _) _⟩
    case done =>
      rintro D ys W hD rfl ⟨⟨hp, hbx⟩, hB⟩ hK
      have HP := Lib.hid (pathOk_good (by omega) hp)
      have hcr := hbx.cell
      have hfr := hbx.frozen
      have HBX := Lib.hid hbx
      have HB := Lib.hid hB
      have HK := Lib.hid hK
      clear hp hB hK hbx
      gi_wp2
      have hK' := (KeepsOthers.setCell W ⟨w.heap.size, 0, none⟩ (.bool true)).same D _ HK.out rfl
      refine ⟨by simp, .inl ⟨_, _, rfl, run_takeDeferred hK', ?_⟩⟩
      have hc5 := cell_kept (HBX.out.set (.bool true)).cell (grownBy_putObj' _ D (.deferred none)) (fun r e => by cases e; exact ⟨_, hK', rfl⟩)
      refine ⟨.bool true, ?_, ret_bool HP.out.symm, (HB.out.setCell (p := ⟨w.heap.size, 0, none⟩) (Nat.le_refl _) _).trans (belowK_b (w := w) (Nat.le_refl _) _ D _ _ (by simp at hD; omega) hK' rfl rfl)⟩
      simp [results, Tryz.f97, go_sem, hc5]
    case stop =>
      rintro D c pre W hD hpre ⟨⟨⟨rfl, y, hy, hyf⟩, hbx⟩, hB⟩ hK
      have HP := Lib.hid (pathOk_bad (hpre.subset hy) hyf)
      have HBX := Lib.hid hbx
      have HB := Lib.hid hB
      have HK := Lib.hid hK
      clear hB hK hbx hyf
      gi_wp2
      refine ⟨by simp, .inl ⟨_, _, rfl, run_takeDeferred HK.out, ?_⟩⟩
      have hc5 := cell_kept HBX.out.cell (grownBy_putObj' _ D (.deferred none)) (fun r e => by cases e; exact ⟨_, HK.out, rfl⟩)
      refine ⟨.bool false, ?_, ret_bool HP.out.symm, HB.out.trans (belowK_b (w := w) (Nat.le_refl _) W D _ _ (by simp at hD; omega) HK.out rfl rfl)⟩
      simp [results, Tryz.f97, go_sem, hc5]
  · have HB := Lib.hid (pathOk_long (s := s) (by omega))
    refine callsIn_of_wp_marks Tryz.func97 rfl trivial ?_ rfl
    simp only [Tryz.ntmps97, List.size_toArray, List.length_cons, List.length_nil, Nat.reduceAdd, Nat.reduceSub, Array.replicate_succ, Array.replicate_zero, List.push_toArray, List.append_toArray, List.nil_append, List.cons_append]
    gi_wp2
    have c1 := (Boxed.new w 4 (.bool false)).cell
    refine ⟨.bool false, by simp [results, Tryz.f97, go_sem], ret_bool HB.out.symm, (Below.refl _ w).alloc (Nat.le_refl _) _⟩
end Go.Proofs.YtancidbbkoeokaaGreat
