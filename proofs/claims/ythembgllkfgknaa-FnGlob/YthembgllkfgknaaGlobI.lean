/- Contract of impl.Glob. -/
import Derived.Test.YthembgllkfgknaaRangeAll
import Derived.RangeFuncBox
namespace Go.Proofs.Ythembgllkfgknaa
open Go.RowKit Go.Shelf Go.Maps

theorem boxed_loop {W : World} {B l : Nat} {t : TypeId} {v : Value} {r : Loop} (h : Boxed W B t v) (hl : W.heap[l]? = some (.loop r)) (o' : Obj) : Boxed (W.putObj l o') B t v :=
  h.kept (grownBy_putObj' W l o') (fun e => by
    have e' : B = l := by simpa using e
    subst e'
    rw [show W.heap[B]? = _ from h] at hl; cases hl)
theorem set_loop {W : World} {b n l : Nat} {T : Nat → Prop} {r : Loop} (h : SetAt W b n T) (hl : W.heap[l]? = some (.loop r)) (o' : Obj) : SetAt (W.putObj l o') b n T :=
  h.kept (grownBy_putObj' W l o') (fun e => by
    have e' : b = l := by simpa using e
    subst e'
    obtain ⟨D, ⟨es, clock, h1, _⟩, _⟩ := h
    rw [h1] at hl; cases hl)
theorem boxed_of {W W' : World} {B : Nat} {t : TypeId} {v : Value} (hb : Below W.heap.size W W') (h : Boxed W B t v) : Boxed W' B t v := (hb.block B h.lt).trans h
theorem SetAt.alloc {W : World} {b n : Nat} {T : Nat → Prop} (h : SetAt W b n T) (o : Obj) : SetAt (W.alloc o) b n T := h.kept (World.grownBy_alloc W o none) (by simp)
theorem zero_from (n k : Nat) : (False ∨ k = 0) ↔ From n zeroR k := by
  unfold From zeroR
  constructor
  · rintro (h | rfl)
    · exact h.elim
    · exact ⟨Nat.zero_le _, by simp⟩
  · rintro ⟨_, h⟩; exact .inr (by simpa using h)
theorem globv_short {p s : ByteArray} (h : p.size ≤ 50) (h2 : s.size ≤ 300) : globv p s = globFold s (toksAt p 0) zeroR s.size := by simp [globv, h, h2]
theorem globv_long {p s : ByteArray} (h : ¬ (p.size ≤ 50 ∧ s.size ≤ 300)) : globv p s = false := by simp [globv, h]

attribute [local go_sem] Oper.semAt_some

set_option maxRecDepth 100000 in
set_option maxHeartbeats 2000000 in
theorem glob_impl (p s : ByteArray) (w : World) (hp : p.size ≤ 1048576) (hs : s.size ≤ 1048576) :
    Calls Try.prog 11 #[.string p, .string s] w fun e w' => e = .returned (.bool (globv p s)) ∧ Below w.heap.size w w' := by
  refine (callsIn_wide (n := 4)).1 ?_
  by_cases h1 : (p.size : Int) ≤ 50
  · by_cases h2 : (s.size : Int) ≤ 300
    · have HGV := Lib.hid (globv_short (p := p) (s := s) (by omega) (by omega))
      have hmm := @run_makeMap Try.prog
      have hd1 : decide ((50 : Int) < (p.size : Int)) = false := by simp; omega
      have hd2 : decide ((300 : Int) < (s.size : Int)) = false := by simp; omega
      have b0 := Boxed.new w 9 (.string s)
      have hsn : s.size ≤ 300 := by omega
      have hmx : s.size + 1 < maxLen := by simp only [maxLen]; omega
      obtain ⟨wm, hrun, hset, hturn⟩ : ∃ wm, (Instr.mapUpdate 50 (.map (some (w.heap.size + 1))) (.int .i64 0) (.agg #[])).run Try.prog ((w.alloc (.cells #[.string s] 9)).alloc (.map #[] 0)) = .ok () wm ∧ SetAt wm (w.heap.size + 1) s.size (From s.size zeroR) ∧ ((w.alloc (.cells #[.string s] 9)).alloc (.map #[] 0)).mapTurned wm (w.heap.size + 1) := by
        obtain ⟨D, ho, hD⟩ := set_made (w.alloc (.cells #[.string s] 9)) s.size
        rw [World.size_alloc] at ho
        obtain ⟨wm, hr, h3, h4⟩ := World.ownsMap.store ho lawI Try.underlying50 hmx (keyI (k := 0) (by omega)) unitElem_mk
        have h5 : SetIs (D.put (.int .i64 ((0 : Nat) : Int)) (.agg [])) s.size (From s.size zeroR) := (hD.put (World.ownsMap.isMap ho) (Nat.zero_le _) _).congr (zero_from s.size)
        exact ⟨wm, hr, ⟨_, set_size h3 h5, h5⟩, h4⟩
      have hgm := hturn.grown
      have hmsz : wm.heap.size = w.heap.size + 1 + 1 := by
        obtain ⟨es, cl, es', cl', _, rfl⟩ := hturn
        simp [Go.ChangeMaps.setBlock]
      have bS : Boxed wm w.heap.size 9 (.string s) := (b0.alloc _).kept hgm (by simp)
      have hBm : Below w.heap.size w wm := (((Below.refl _ w).alloc (Nat.le_refl _) _).alloc (by simp) _).grown hgm (by simp; omega) (fun j hj => by simp at hj; omega)
      clear hturn b0
      refine callsIn_of_wp_marks Try.func11 rfl trivial ?_ rfl
      simp only [Try.ntmps11, List.size_toArray, List.length_cons, List.length_nil, Nat.reduceAdd, Nat.reduceSub, Array.replicate_succ, Array.replicate_zero, List.push_toArray, List.append_toArray, List.nil_append, List.cons_append]
      gi_wp2_with fail
      refine ⟨trivial, (toks_make _ _ _).mono ?_⟩
      rintro e w2 ⟨rfl, rfl⟩
      rw [World.size_alloc, hmsz]
      gi_wp2_with fail
      have b5 := Boxed.new wm 50 (.map (some (w.heap.size + 1)))
      have b6 := Boxed.new (wm.alloc (.cells #[.map (some (w.heap.size + 1))] 50)) 9 (.string p)
      rw [World.size_alloc, hmsz] at b6
      rw [hmsz] at b5
      have hB0 : Below w.heap.size w ((wm.alloc (.cells #[.map (some (w.heap.size + 1))] 50)).alloc (.cells #[.string p] 9)) := (hBm.alloc hBm.size _).alloc (by simp; omega) _
      have hsz0 : ((wm.alloc (.cells #[.map (some (w.heap.size + 1))] 50)).alloc (.cells #[.string p] 9)).heap.size = w.heap.size + 4 := by simp [hmsz]
      have HGF := Lib.hid (fun pre x => globFold_snoc s x pre zeroR)
      refine range_all (gf := 52) (lb := #[.pointer (some ⟨w.heap.size + 1 + 1 + 1, 0, none⟩)]) rfl (enters_of Try.func52 (by kernel_rfl) rfl) (fun _ => rfl) (by rw [hsz0]; omega)
        (toks_all _ (w.heap.size + 1 + 1 + 1) p _ (by omega) (by rw [hsz0]; omega) b6.cell)
        (fun pre W => (∃ b, Boxed W (w.heap.size + 1 + 1) 50 (.map (some b)) ∧ SetAt W b s.size (From s.size (globFold s (vals pre) zeroR))) ∧ Boxed W w.heap.size 9 (.string s) ∧ Below w.heap.size w W ∧ w.heap.size + 4 ≤ W.heap.size)
        ?hI ?hIa ⟨⟨_, b5.alloc _, (hset.alloc _).alloc _⟩, (bS.alloc _).alloc _, hB0, by rw [hsz0]; omega⟩
        (fun x => { tmps := #[.string p, .string s, undef, .pointer (some ⟨w.heap.size, 0, none⟩), .bool false, .pointer (some ⟨w.heap.size + 1 + 1, 0, none⟩), .string x.1, undef, undef, .string p, .int .i64 p.size, .bool false, .bool false, .string s, .int .i64 s.size, .bool false, .bool false, .map (some (w.heap.size + 1)), .agg #[], .map (some (w.heap.size + 1)), .string p, .func (.func 52) #[] #[.pointer (some ⟨w.heap.size + 1 + 1 + 1, 0, none⟩)], .string x.1, undef, undef, undef, undef, undef, undef, undef, undef, undef, undef, undef, undef], defers := [] }) ?assign ?body ?done
      case hI =>
        rintro pre W l r o' ⟨⟨b, h3, h4⟩, h5, h6, h7⟩ hle hl
        rw [hsz0] at hle
        refine ⟨⟨b, boxed_loop h3 hl _, set_loop h4 hl _⟩, boxed_loop h5 hl _, h6.grown (grownBy_putObj' W l o') h6.size (fun j hj => by simp at hj; omega), by simpa using h7⟩
      case hIa =>
        rintro W o ⟨⟨b, h3, h4⟩, h5, h6, h7⟩
        exact ⟨⟨b, h3.alloc _, h4.alloc _⟩, h5.alloc _, h6.alloc h6.size _, by simp; omega⟩
      case assign =>
        intro l x W K hK
        gi_wp2
        exact hK
      case body =>
        rintro l pre x W ⟨⟨b, h3, h4⟩, h5, h6, h7⟩ _
        have c3 := h3.cell
        have c5 := h5.cell
        have f3 := h3.frozen
        have HA := Lib.hid (CallsIn.inRound l ((callsIn_wide (n := 1)).2 (afterToken_any x.1 s b _ W x.2 hsn h4)))
        rw [← HGF.out, ← vals_snoc] at HA
        have l3 := h3.lt
        have H3 := Lib.hid h3
        have H5 := Lib.hid h5
        have H6 := Lib.hid h6
        clear h3 h4 h5 h6 hset hgm bS hBm b5 b6 hB0
        generalize globFold s (vals (pre ++ [x])) zeroR = R at HA
        gi_wp2_with fail
        refine ⟨trivial, HA.out.mono ?_⟩
        rintro e W1 ⟨rfl, hs1, hb1⟩
        have k3 := boxed_of hb1 H3.out
        have c3' := k3.cell
        have f3' := k3.frozen
        have HS1 := Lib.hid hs1
        have HB1 := Lib.hid hb1
        have K3 := Lib.hid k3
        clear hs1 hb1 k3 c3 c5 f3
        gi_wp2_with fail
        refine ⟨?_, ?_, ⟨⟨W.heap.size, K3.out.set _, HS1.out.kept (grownBy_setCell' W1 _ _) (by simp; omega)⟩, (boxed_of HB1.out H5.out).other (by omega) _, (H6.out.trans (HB1.out.mono H6.out.size)).setCell (p := ⟨w.heap.size + 1 + 1, 0, none⟩) (by simp; omega) _, by have := HB1.out.size; simp; omega⟩⟩
        · refine KeepsFrom.trans ⟨HB1.out.size, fun k o _ hk _ => (HB1.out.block k (Array.getElem?_eq_some_iff.1 hk).1).trans hk⟩ ((KeepsOthers.setCell _ _ _).from _)
        · exact (Below.heap_setCell _ _ _ _ (by simp)).trans (HB1.out.block _ (by omega))
      case done =>
        rintro D xs W hD hS ⟨⟨b, h3, h4⟩, h5, h6, h7⟩ hK
        have c3 := h3.cell
        have c5 := h5.cell
        rw [hS] at h4
        obtain ⟨DD, ho, hDD⟩ := h4
        obtain ⟨v, ps, hlook, hv⟩ := World.ownsMap.look_ok ho lawI Try.underlying50 (zeroU W) unitElem_mk (keyI (k := s.size) (by omega))
        obtain ⟨rfl, _⟩ := unitElem_inv hv
        have hh : Maps.has DD (.int .i64 (s.size : Int)) = globv p s := by
          rw [HGV.out]
          cases hg : globFold s (toksAt p 0) zeroR s.size with
          | true => exact hDD.has_t ⟨Nat.le_refl _, hg⟩
          | false => exact hDD.has_f (fun h => by rw [h.2] at hg; cases hg)
        rw [hh] at hlook
        have H6 := Lib.hid h6
        have HK := Lib.hid hK
        have lD : D < W.heap.size := (Array.getElem?_eq_some_iff.1 hK).1
        clear h3 h5 h6 ho hDD hv hh hset hgm bS hBm b5 b6 hB0 hK
        generalize hr : globv p s = r at hlook
        have HR := Lib.hid hr
        clear hr HGV
        gi_wp2
        have hK' : (W.alloc (.cells #[] 48)).heap[D]? = some (.deferred (some [])) := (Below.heap_alloc W _ D lD).trans HK.out
        refine ⟨by simp, .inl ⟨_, _, rfl, run_takeDeferred hK', ?_⟩⟩
        refine ⟨_, results_tmp rfl _ _ _, ?_, ?_⟩
        · exact ret_bool HR.out.symm
        · exact (H6.out.alloc H6.out.size _).trans (belowK_b (w := w) (Nat.le_refl _) _ D _ _ (by rw [hsz0] at hD; omega) hK' rfl rfl)
    · have HE := Lib.hid (globv_long (p := p) (s := s) (by omega))
      have hd1 : decide ((50 : Int) < (p.size : Int)) = false := by simp; omega
      refine callsIn_of_wp_marks Try.func11 rfl trivial ?_ rfl
      simp only [Try.ntmps11, List.size_toArray, List.length_cons, List.length_nil, Nat.reduceAdd, Nat.reduceSub, Array.replicate_succ, Array.replicate_zero, List.push_toArray, List.append_toArray, List.nil_append, List.cons_append]
      gi_wp2
      refine ⟨_, results_tmp rfl _ _ _, ?_, ?_⟩
      · exact ret_bool HE.out.symm
      · exact (Below.refl _ w).alloc (Nat.le_refl _) _
  · have HE := Lib.hid (globv_long (p := p) (s := s) (by omega))
    have hd1 : decide ((50 : Int) < (p.size : Int)) = true := by simp; omega
    refine callsIn_of_wp_marks Try.func11 rfl trivial ?_ rfl
    simp only [Try.ntmps11, List.size_toArray, List.length_cons, List.length_nil, Nat.reduceAdd, Nat.reduceSub, Array.replicate_succ, Array.replicate_zero, List.push_toArray, List.append_toArray, List.nil_append, List.cons_append]
    gi_wp2
    refine ⟨_, results_tmp rfl _ _ _, ?_, ?_⟩
    · exact ret_bool HE.out.symm
    · exact (Below.refl _ w).alloc (Nat.le_refl _) _
end Go.Proofs.Ythembgllkfgknaa
