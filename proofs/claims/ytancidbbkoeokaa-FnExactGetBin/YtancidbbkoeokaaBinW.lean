/- The writer of a card's head: its methods. -/
import Derived.Test.YtancidbbkoeokaaBinRoom
import Derived.Test.YtancidbbkoeokaaOwn
import Derived.Test.YtancidbbkoeokaaRegU
import Derived.Deep.DeepCutAuto
import Derived.OwnWalk
import Derived.Laws.ResultCell
import Derived.Laws.Rows
namespace Go.Proofs.Ytancidbbkoeokaa
open Go.ChangeShapes Go.WideShapes Go.ChangeAt Go.RowKit Go.Deep

/-- The writer in a block of its own: the order of bytes, what is written, whether a number had no room. -/
def WrO (w : World) (g : Nat) (hi : Bool) (l : List UInt8) (rf : Bool) : Prop := ∃ v, w.heap[g]? = some (.cells #[.bool hi, v, .bool rf] 53 (0, 0)) ∧ OwnB w g v l
theorem heap_setW {w : World} {g i : Nat} {cs : Array Value} {t : TypeId} {v : Value} (h : w.heap[g]? = some (.cells cs t (0, 0))) : (w.setCell ⟨g, i, none⟩ v).heap[g]? = some (.cells (cs.setIfInBounds i v) t (0, 0)) := by
  have hlt : g < w.heap.size := (Array.getElem?_eq_some_iff.1 h).1
  have hg : w.heap[g] = .cells cs t (0, 0) := (Array.getElem?_eq_some_iff.1 h).2
  simp [World.setCell, hlt, Array.getElem_modify, hg]
theorem own_neB {w : World} {base : Nat} {e t : TypeId} {v : Value} {n g : Nat} {xs : List Value} {cs : Array Value} {fr : Nat × Nat} (h : w.ownsRow base e 1 v n xs) (hg : w.heap[g]? = some (.cells cs t fr)) (ht : ¬ t = e) : some g ≠ v.ownBlock := by
  intro e1
  rcases h.2 with ⟨h0, _⟩ | ⟨g', cap', cur, hv, hg', hh, _⟩
  · subst h0; simp [Value.ownBlock] at e1
  · subst hv
    simp [Value.ownBlock] at e1
    subst e1
    rw [hg] at hh
    simp at hh
    exact ht hh.2.1
/-- A store into another block keeps a row. -/
theorem own_setB {w : World} {base : Nat} {v : Value} {l : List UInt8} {g i : Nat} {u : Value} (h : OwnB w base v l) (hne : some g ≠ v.ownBlock) : OwnB (w.setCell ⟨g, i, none⟩ u) base v l :=
  World.ownsRow.kept h (row := some g) ⟨rfl, rfl, rfl, by simp, fun k hk hn => Below.heap_setCell w _ u k (fun e => hn (by rw [e]))⟩ (by
    cases hv : v.ownBlock with
    | none => exact .inl rfl
    | some b => exact .inr (fun e => hne (by rw [hv, ← e])))
theorem textB {w : World} {base n : Nat} {v : Value} {l : List UInt8} {s : ByteArray} (hn : n = l.length + s.size) (h : w.ownsRow base 5 1 v n (byteVals l ++ Lib.strCells s)) : OwnB w base v (l ++ s.data.toList) := by
  subst hn
  have e : byteVals l ++ Lib.strCells s = byteVals (l ++ s.data.toList) := by simp [byteVals, Lib.strCells]
  rw [e, show l.length + s.size = (l ++ s.data.toList).length from by simp] at h
  exact h
def outB (n most : Int) : Bool := decide (n < 0) || decide (most < n)
theorem outB_r16 (n : Int) : outB n 65535 = !r16 n := by unfold outB r16; by_cases h1 : n < 0 <;> by_cases h2 : (65535 : Int) < n <;> simp [h1, h2] <;> omega
theorem outB_r32 (n : Int) : outB n 4294967295 = !r32 n := by unfold outB r32; by_cases h1 : n < 0 <;> by_cases h2 : (4294967295 : Int) < n <;> simp [h1, h2] <;> omega
set_option maxHeartbeats 1600000 in
set_option maxRecDepth 8000 in
theorem add_any (g : Nat) (hi : Bool) (l : List UInt8) (rf : Bool) (n most : Int) (s : ByteArray) (w : World) (h : WrO w g hi l rf) (hl : l.length ≤ 1000) (hs : s.size ≤ 8) :
    Calls Try.prog 99 #[.pointer (some ⟨g, 0, none⟩), .int .i64 n, .int .i64 most, .string s] w fun e w' => e = .returned (.tuple #[]) ∧ WrO w' g hi (l ++ s.data.toList) (rf || outB n most) ∧ Below g w w' := by
  obtain ⟨i0, hi0, hz0, hz1, hz2⟩ := info_parts Try.info5
  obtain ⟨v, hg, ho⟩ := h
  have HG := Lib.hid hg
  have O := Lib.hid ho
  have hne := own_neB ho hg (by decide)
  have hlt := (Array.getElem?_eq_some_iff.1 hg).1
  have c1 : w.cell? ⟨g, 1, none⟩ = some v := by simp [World.cell?, hg]
  have c2 : w.cell? ⟨g, 2, none⟩ = some (.bool rf) := by simp [World.cell?, hg]
  have f2 : w.frozen? ⟨g, 2, none⟩ = false := by simp [World.frozen?, hg]
  obtain ⟨rf2, hrf⟩ : ∃ b, b = (rf || outB n most) := ⟨_, rfl⟩
  have HR := Lib.hid hrf
  rw [← hrf]
  have hG2 := heap_setW (i := 2) (v := .bool rf2) hg
  simp only [List.setIfInBounds_toArray, List.set_cons_succ, List.set_cons_zero] at hG2
  have HG2 := Lib.hid hG2
  have O2 := Lib.hid (own_setB (i := 2) (u := .bool rf2) ho hne)
  have B2 : Hid (Below g w (w.setCell ⟨g, 2, none⟩ (.bool rf2))) := Lib.hid ((Below.refl g w).setCell (Nat.le_refl _) _)
  have hsz2 : (w.setCell ⟨g, 2, none⟩ (.bool rf2)).heap.size = w.heap.size := by simp
  have HNe := Lib.hid hne
  unfold outB at hrf
  clear hg ho hne hG2
  rcases (show (rf = true ∧ rf2 = true) ∨ (rf = false ∧ n < 0 ∧ rf2 = true) ∨ (rf = false ∧ ¬ n < 0 ∧ most < n ∧ rf2 = true) ∨ (rf = false ∧ ¬ n < 0 ∧ ¬ most < n ∧ rf2 = false) from by rw [hrf]; clear hrf HR HG2 O2 B2 hsz2 c2; cases rf <;> by_cases h2 : n < 0 <;> by_cases h3 : most < n <;> simp [h2, h3]) with ⟨rfl, rfl⟩ | ⟨rfl, h2, rfl⟩ | ⟨rfl, h2, h3, rfl⟩ | ⟨rfl, h2, h3, rfl⟩
  all_goals
    clear hrf HR
    go_enter Try.func99, Try.ntmps99
    go_upto_region 1 with fail
    clear c1 c2 f2
    generalize World.setCell w _ _ = w2 at HG2 O2 B2 hsz2 ⊢
    have c1 : w2.cell? ⟨g, 1, none⟩ = some v := by simp [World.cell?, HG2.out]
    go_wp2_with (at_builtin; refine Lib.wpList_append_own_string _ rfl _ _ 51 9 rfl g 5 i0 Try.underlying51 Try.underlying9 hi0 hz0 hz1 hz2 _ _ _ rfl O2.out s rfl ?pp ?pq ?pr ?_)
    case pp => simp only [maxLen]; omega
    case pq => omega
    case pr => omega
    intro v9 w9 hown hgrow hnil
    obtain ⟨ao, nn, cc, rfl⟩ : ∃ ao nn cc, v9 = .slice ao nn cc := by
      rcases hown.2 with ⟨h9, _⟩ | ⟨_, _, _, h9, _⟩
      · exact ⟨_, _, _, h9⟩
      · exact ⟨_, _, _, h9⟩
    have O9 : Hid (OwnB w9 g (.slice ao nn cc) (l ++ s.data.toList)) := Lib.hid (textB rfl hown)
    have G9 : Hid (w9.heap[g]? = some (.cells #[.bool hi, v, .bool _] 53 (0, 0))) := Lib.hid ((hgrow.block g (by omega) HNe.out).trans HG2.out)
    have B9 : Hid (Below g w w9) := Lib.hid (B2.out.grown hgrow (by omega) (fun b hb => (World.ownsRow.lt O2.out b hb).1))
    have hne9 := own_neB hown G9.out (by decide)
    clear hown hgrow hnil c1
    have c1 : w9.cell? ⟨g, 1, none⟩ = some v := by simp [World.cell?, G9.out]
    have f1 : w9.frozen? ⟨g, 1, none⟩ = false := by simp [World.frozen?, G9.out]
    go_wp2_with fail
    refine bodyPost_end (results_none rfl _ _ _) rfl ?_
    have hg9 := heap_setW (i := 1) (v := .slice ao nn cc) G9.out
    simp only [List.setIfInBounds_toArray, List.set_cons_succ, List.set_cons_zero] at hg9
    refine ⟨rfl, ⟨.slice ao nn cc, hg9, own_setB O9.out hne9⟩, B9.out.setCell (Nat.le_refl _) _⟩
-- WRITER
set_option maxHeartbeats 1600000 in
set_option maxRecDepth 8000 in
theorem short_w (g gh i : Nat) (hi : Bool) (l : List UInt8) (rf : Bool) (x : Int) (w : World) (h : WrO w g hi l rf) (hl : l.length ≤ 1000) (hx : w.cell? ⟨gh, i, none⟩ = some (.int .i64 x)) :
    Calls Try.prog 98 #[.pointer (some ⟨g, 0, none⟩), .pointer (some ⟨gh, i, none⟩)] w fun e w' => e = .returned (.tuple #[]) ∧ WrO w' g hi (l ++ (put16v x hi).data.toList) (rf || !r16 x) ∧ Below g w w' := by
  have HP := Lib.hid (fun w => put16_impl x hi w)
  have hz : (put16v x hi).size ≤ 8 := by rw [put16_size]; decide
  have HA := Lib.hid (fun w h => add_any g hi l rf x 65535 (put16v x hi) w h hl hz)
  rw [outB_r16] at HA
  generalize put16v x hi = q at HP HA
  clear hz
  obtain ⟨v, hg, ho⟩ := h
  have hlt := (Array.getElem?_eq_some_iff.1 hg).1
  have hgl : gh < w.heap.size := by
    cases h9 : w.heap[gh]? with
    | none => simp [World.cell?, h9] at hx
    | some o => exact (Array.getElem?_eq_some_iff.1 h9).1
  have k0 : w.cell? ⟨g, 0, none⟩ = some (.bool hi) := by simp [World.cell?, hg]
  have KC : Hid (∀ w', Below w.heap.size w w' → w'.cell? ⟨gh, i, none⟩ = some (.int .i64 x) ∧ w'.cell? ⟨g, 0, none⟩ = some (.bool hi)) := Lib.hid (fun w' hb => ⟨(hb.cell (p := ⟨gh, i, none⟩) hgl).trans hx, (hb.cell (p := ⟨g, 0, none⟩) hlt).trans k0⟩)
  have HW : Hid (∀ w', Below w.heap.size w w' → WrO w' g hi l rf) := Lib.hid (fun w' hb => ⟨v, (hb.block g hlt).trans hg, World.ownsRow.kept ho (row := none) ⟨hb.os, hb.tape, hb.output, hb.size, fun k hk _ => hb.block k hk⟩ (by cases hv : v.ownBlock <;> simp)⟩)
  clear k0 hx hg ho
  go_enter Try.func98, Try.ntmps98
  refine wp_region_cut 12 (by kernel_rfl) (fun w' => Below w.heap.size w w') (fun x y => Below x.heap.size x y) (fun dq vq _ => match dq with | 4 => vq = .pointer (some ⟨g, 0, none⟩) | 5 => vq = .pointer (some ⟨gh, i, none⟩) | 6 => vq = .pointer (some ⟨gh, i, none⟩) | 7 => vq = .int .i64 x | 8 => vq = .pointer (some ⟨gh, i, none⟩) | 9 => vq = .pointer (some ⟨gh, i, none⟩) | 10 => vq = .int .i64 x | 11 => vq = .pointer (some ⟨g, 0, none⟩) | 12 => vq = .pointer (some ⟨g, 0, none⟩) | 13 => vq = .pointer (some ⟨g, 0, none⟩) | 14 => vq = .bool hi | 15 => vq = .string q | _ => True) (by kernel_rfl) (by kernel_rfl) ((Below.refl _ _).drew) (fun _ _ _ _ _ _ h => h) (by simp) ?hops ?hend
  case hops =>
    simp only [List.take_succ_cons, List.take_zero, List.forall_mem_cons]
    refine ⟨?o4, ?o5, ?o6, ?o7, ?o8, ?o9, ?o10, ?o11, ?o12, ?o13, ?o14, ?o15, fun _ h => by cases h⟩
    case o4 =>
      intro Q a w2 hC hV hI
      have e0 : a.eval (.tmp 0) = .pointer (some ⟨g, 0, none⟩) := (hI 0 (by simp [Op.operands]) (by kernel_rfl)).trans rfl
      have f0 : a.tmps.getD 0 undef = .pointer (some ⟨g, 0, none⟩) := e0
      have g0 : a.tmps[0]?.getD undef = .pointer (some ⟨g, 0, none⟩) := by rw [← Array.getD_eq_getD_getElem?]; exact e0
      refine op_val (.pointer (some ⟨g, 0, none⟩)) ?_ hC (Below.refl _ _) (by intro d hd; cases hd; rfl)
      (clear hV hI hC; go_simp <;> (first | rfl | simp | (rw [IntKind.wrap_i64]; omega)))
    case o5 =>
      intro Q a w2 hC hV hI
      have e1 : a.eval (.tmp 1) = .pointer (some ⟨gh, i, none⟩) := (hI 1 (by simp [Op.operands]) (by kernel_rfl)).trans rfl
      have f1 : a.tmps.getD 1 undef = .pointer (some ⟨gh, i, none⟩) := e1
      have g1 : a.tmps[1]?.getD undef = .pointer (some ⟨gh, i, none⟩) := by rw [← Array.getD_eq_getD_getElem?]; exact e1
      refine op_val (.pointer (some ⟨gh, i, none⟩)) ?_ hC (Below.refl _ _) (by intro d hd; cases hd; rfl)
      (clear hV hI hC; go_simp <;> (first | rfl | simp | (rw [IntKind.wrap_i64]; omega)))
    case o6 =>
      intro Q a w2 hC hV hI
      have e5 : a.eval (.tmp 5) = .pointer (some ⟨gh, i, none⟩) := hV 5 (by simp [Op.operands]) (by kernel_rfl)
      have f5 : a.tmps.getD 5 undef = .pointer (some ⟨gh, i, none⟩) := e5
      have g5 : a.tmps[5]?.getD undef = .pointer (some ⟨gh, i, none⟩) := by rw [← Array.getD_eq_getD_getElem?]; exact e5
      refine op_val (.pointer (some ⟨gh, i, none⟩)) ?_ hC (Below.refl _ _) (by intro d hd; cases hd; rfl)
      (clear hV hI hC; go_simp <;> (first | rfl | simp | (rw [IntKind.wrap_i64]; omega)))
    case o7 =>
      intro Q a w2 hC hV hI
      have e6 : a.eval (.tmp 6) = .pointer (some ⟨gh, i, none⟩) := hV 6 (by simp [Op.operands]) (by kernel_rfl)
      have f6 : a.tmps.getD 6 undef = .pointer (some ⟨gh, i, none⟩) := e6
      have g6 : a.tmps[6]?.getD undef = .pointer (some ⟨gh, i, none⟩) := by rw [← Array.getD_eq_getD_getElem?]; exact e6
      have hK := KC.out w2 hC
      refine op_val (.int .i64 x) ?_ hC (Below.refl _ _) (by intro d hd; cases hd; rfl)
      (clear hV hI hC; go_simp <;> (first | rfl | simp | (rw [IntKind.wrap_i64]; omega)))
    case o8 =>
      intro Q a w2 hC hV hI
      have e1 : a.eval (.tmp 1) = .pointer (some ⟨gh, i, none⟩) := (hI 1 (by simp [Op.operands]) (by kernel_rfl)).trans rfl
      have f1 : a.tmps.getD 1 undef = .pointer (some ⟨gh, i, none⟩) := e1
      have g1 : a.tmps[1]?.getD undef = .pointer (some ⟨gh, i, none⟩) := by rw [← Array.getD_eq_getD_getElem?]; exact e1
      refine op_val (.pointer (some ⟨gh, i, none⟩)) ?_ hC (Below.refl _ _) (by intro d hd; cases hd; rfl)
      (clear hV hI hC; go_simp <;> (first | rfl | simp | (rw [IntKind.wrap_i64]; omega)))
    case o9 =>
      intro Q a w2 hC hV hI
      have e8 : a.eval (.tmp 8) = .pointer (some ⟨gh, i, none⟩) := hV 8 (by simp [Op.operands]) (by kernel_rfl)
      have f8 : a.tmps.getD 8 undef = .pointer (some ⟨gh, i, none⟩) := e8
      have g8 : a.tmps[8]?.getD undef = .pointer (some ⟨gh, i, none⟩) := by rw [← Array.getD_eq_getD_getElem?]; exact e8
      refine op_val (.pointer (some ⟨gh, i, none⟩)) ?_ hC (Below.refl _ _) (by intro d hd; cases hd; rfl)
      (clear hV hI hC; go_simp <;> (first | rfl | simp | (rw [IntKind.wrap_i64]; omega)))
    case o10 =>
      intro Q a w2 hC hV hI
      have e9 : a.eval (.tmp 9) = .pointer (some ⟨gh, i, none⟩) := hV 9 (by simp [Op.operands]) (by kernel_rfl)
      have f9 : a.tmps.getD 9 undef = .pointer (some ⟨gh, i, none⟩) := e9
      have g9 : a.tmps[9]?.getD undef = .pointer (some ⟨gh, i, none⟩) := by rw [← Array.getD_eq_getD_getElem?]; exact e9
      have hK := KC.out w2 hC
      refine op_val (.int .i64 x) ?_ hC (Below.refl _ _) (by intro d hd; cases hd; rfl)
      (clear hV hI hC; go_simp <;> (first | rfl | simp | (rw [IntKind.wrap_i64]; omega)))
    case o11 =>
      intro Q a w2 hC hV hI
      have e0 : a.eval (.tmp 0) = .pointer (some ⟨g, 0, none⟩) := (hI 0 (by simp [Op.operands]) (by kernel_rfl)).trans rfl
      have f0 : a.tmps.getD 0 undef = .pointer (some ⟨g, 0, none⟩) := e0
      have g0 : a.tmps[0]?.getD undef = .pointer (some ⟨g, 0, none⟩) := by rw [← Array.getD_eq_getD_getElem?]; exact e0
      refine op_val (.pointer (some ⟨g, 0, none⟩)) ?_ hC (Below.refl _ _) (by intro d hd; cases hd; rfl)
      (clear hV hI hC; go_simp <;> (first | rfl | simp | (rw [IntKind.wrap_i64]; omega)))
    case o12 =>
      intro Q a w2 hC hV hI
      have e11 : a.eval (.tmp 11) = .pointer (some ⟨g, 0, none⟩) := hV 11 (by simp [Op.operands]) (by kernel_rfl)
      have f11 : a.tmps.getD 11 undef = .pointer (some ⟨g, 0, none⟩) := e11
      have g11 : a.tmps[11]?.getD undef = .pointer (some ⟨g, 0, none⟩) := by rw [← Array.getD_eq_getD_getElem?]; exact e11
      refine op_val (.pointer (some ⟨g, 0, none⟩)) ?_ hC (Below.refl _ _) (by intro d hd; cases hd; rfl)
      (clear hV hI hC; go_simp <;> (first | rfl | simp | (rw [IntKind.wrap_i64]; omega)))
    case o13 =>
      intro Q a w2 hC hV hI
      have e12 : a.eval (.tmp 12) = .pointer (some ⟨g, 0, none⟩) := hV 12 (by simp [Op.operands]) (by kernel_rfl)
      have f12 : a.tmps.getD 12 undef = .pointer (some ⟨g, 0, none⟩) := e12
      have g12 : a.tmps[12]?.getD undef = .pointer (some ⟨g, 0, none⟩) := by rw [← Array.getD_eq_getD_getElem?]; exact e12
      refine op_val (.pointer (some ⟨g, 0, none⟩)) ?_ hC (Below.refl _ _) (by intro d hd; cases hd; rfl)
      (clear hV hI hC; go_simp <;> (first | rfl | simp | (rw [IntKind.wrap_i64]; omega)))
    case o14 =>
      intro Q a w2 hC hV hI
      have e13 : a.eval (.tmp 13) = .pointer (some ⟨g, 0, none⟩) := hV 13 (by simp [Op.operands]) (by kernel_rfl)
      have f13 : a.tmps.getD 13 undef = .pointer (some ⟨g, 0, none⟩) := e13
      have g13 : a.tmps[13]?.getD undef = .pointer (some ⟨g, 0, none⟩) := by rw [← Array.getD_eq_getD_getElem?]; exact e13
      have hK := KC.out w2 hC
      refine op_val (.bool hi) ?_ hC (Below.refl _ _) (by intro d hd; cases hd; rfl)
      (clear hV hI hC; go_simp <;> (first | rfl | simp | (rw [IntKind.wrap_i64]; omega)))
    case o15 =>
      intro Q a w2 hC hV hI
      have e10 : a.eval (.tmp 10) = .int .i64 x := hV 10 (by simp [Op.operands, Call.operands]) (by kernel_rfl)
      have f10 : a.tmps.getD 10 undef = .int .i64 x := e10
      have g10 : a.tmps[10]?.getD undef = .int .i64 x := by rw [← Array.getD_eq_getD_getElem?]; exact e10
      have e14 : a.eval (.tmp 14) = .bool hi := hV 14 (by simp [Op.operands, Call.operands]) (by kernel_rfl)
      have f14 : a.tmps.getD 14 undef = .bool hi := e14
      have g14 : a.tmps[14]?.getD undef = .bool hi := by rw [← Array.getD_eq_getD_getElem?]; exact e14
      refine op_call (f := 101) (args := #[.int .i64 x, .bool hi]) (R := fun v y => v = .string q ∧ Below w2.heap.size w2 y) ?_ ((HP.out w2).mono ?_) ?_
      · (clear hV hI hC; go_simp <;> (first | rfl | simp | (rw [IntKind.wrap_i64]; omega)))
      · rintro e y ⟨rfl, hb⟩; exact ⟨_, rfl, rfl, hb⟩
      · rintro v y ⟨rfl, hb⟩; exact ⟨hC.trans (hb.mono hC.size), hb, by intro d hd; cases hd; rfl⟩
  case hend =>
    intro f w2 hC hall
    simp only [List.take_succ_cons, List.take_zero, List.drop_succ_cons, List.drop_zero] at hall ⊢
    simp only [List.forall_mem_cons] at hall
    obtain ⟨h4, h5, h6, h7, h8, h9, h10, h11, h12, h13, h14, h15, _⟩ := hall
    replace h4 : f 4 = .pointer (some ⟨g, 0, none⟩) := h4 4 rfl
    replace h5 : f 5 = .pointer (some ⟨gh, i, none⟩) := h5 5 rfl
    replace h6 : f 6 = .pointer (some ⟨gh, i, none⟩) := h6 6 rfl
    replace h7 : f 7 = .int .i64 x := h7 7 rfl
    replace h8 : f 8 = .pointer (some ⟨gh, i, none⟩) := h8 8 rfl
    replace h9 : f 9 = .pointer (some ⟨gh, i, none⟩) := h9 9 rfl
    replace h10 : f 10 = .int .i64 x := h10 10 rfl
    replace h11 : f 11 = .pointer (some ⟨g, 0, none⟩) := h11 11 rfl
    replace h12 : f 12 = .pointer (some ⟨g, 0, none⟩) := h12 12 rfl
    replace h13 : f 13 = .pointer (some ⟨g, 0, none⟩) := h13 13 rfl
    replace h14 : f 14 = .bool hi := h14 14 rfl
    replace h15 : f 15 = .string q := h15 15 rfl
    simp only [putAll, Act.put, List.setIfInBounds_toArray, List.set_cons_succ, List.set_cons_zero, h4, h5, h6, h7, h8, h9, h10, h11, h12, h13, h14, h15]
    clear h4 h5 h6 h7 h8 h9 h10 h11 h12 h13 h14 h15
    go_wp2_with fail
    refine (HA.out _ (HW.out _ hC)).mono ?_
    rintro e w3 ⟨rfl, hw3, hb3⟩
    have B3 := (hC.mono (Nat.le_of_lt hlt)).trans hb3
    clear KC HW HA HP hC hb3
    go_wp2_with fail
    refine bodyPost_end (results_none rfl _ _ _) rfl ?_
    exact ⟨rfl, hw3, B3⟩
set_option maxHeartbeats 1600000 in
set_option maxRecDepth 8000 in
theorem long_w (g gh i : Nat) (hi : Bool) (l : List UInt8) (rf : Bool) (x : Int) (w : World) (h : WrO w g hi l rf) (hl : l.length ≤ 1000) (hx : w.cell? ⟨gh, i, none⟩ = some (.int .i64 x)) :
    Calls Try.prog 96 #[.pointer (some ⟨g, 0, none⟩), .pointer (some ⟨gh, i, none⟩)] w fun e w' => e = .returned (.tuple #[]) ∧ WrO w' g hi (l ++ (put32v x hi).data.toList) (rf || !r32 x) ∧ Below g w w' := by
  have HP := Lib.hid (fun w => put32_impl x hi w)
  have hz : (put32v x hi).size ≤ 8 := by rw [put32_size]; decide
  have HA := Lib.hid (fun w h => add_any g hi l rf x 4294967295 (put32v x hi) w h hl hz)
  rw [outB_r32] at HA
  generalize put32v x hi = q at HP HA
  clear hz
  obtain ⟨v, hg, ho⟩ := h
  have hlt := (Array.getElem?_eq_some_iff.1 hg).1
  have hgl : gh < w.heap.size := by
    cases h9 : w.heap[gh]? with
    | none => simp [World.cell?, h9] at hx
    | some o => exact (Array.getElem?_eq_some_iff.1 h9).1
  have k0 : w.cell? ⟨g, 0, none⟩ = some (.bool hi) := by simp [World.cell?, hg]
  have KC : Hid (∀ w', Below w.heap.size w w' → w'.cell? ⟨gh, i, none⟩ = some (.int .i64 x) ∧ w'.cell? ⟨g, 0, none⟩ = some (.bool hi)) := Lib.hid (fun w' hb => ⟨(hb.cell (p := ⟨gh, i, none⟩) hgl).trans hx, (hb.cell (p := ⟨g, 0, none⟩) hlt).trans k0⟩)
  have HW : Hid (∀ w', Below w.heap.size w w' → WrO w' g hi l rf) := Lib.hid (fun w' hb => ⟨v, (hb.block g hlt).trans hg, World.ownsRow.kept ho (row := none) ⟨hb.os, hb.tape, hb.output, hb.size, fun k hk _ => hb.block k hk⟩ (by cases hv : v.ownBlock <;> simp)⟩)
  clear k0 hx hg ho
  go_enter Try.func96, Try.ntmps96
  refine wp_region_cut 12 (by kernel_rfl) (fun w' => Below w.heap.size w w') (fun x y => Below x.heap.size x y) (fun dq vq _ => match dq with | 4 => vq = .pointer (some ⟨g, 0, none⟩) | 5 => vq = .pointer (some ⟨gh, i, none⟩) | 6 => vq = .pointer (some ⟨gh, i, none⟩) | 7 => vq = .int .i64 x | 8 => vq = .pointer (some ⟨gh, i, none⟩) | 9 => vq = .pointer (some ⟨gh, i, none⟩) | 10 => vq = .int .i64 x | 11 => vq = .pointer (some ⟨g, 0, none⟩) | 12 => vq = .pointer (some ⟨g, 0, none⟩) | 13 => vq = .pointer (some ⟨g, 0, none⟩) | 14 => vq = .bool hi | 15 => vq = .string q | _ => True) (by kernel_rfl) (by kernel_rfl) ((Below.refl _ _).drew) (fun _ _ _ _ _ _ h => h) (by simp) ?hops ?hend
  case hops =>
    simp only [List.take_succ_cons, List.take_zero, List.forall_mem_cons]
    refine ⟨?o4, ?o5, ?o6, ?o7, ?o8, ?o9, ?o10, ?o11, ?o12, ?o13, ?o14, ?o15, fun _ h => by cases h⟩
    case o4 =>
      intro Q a w2 hC hV hI
      have e0 : a.eval (.tmp 0) = .pointer (some ⟨g, 0, none⟩) := (hI 0 (by simp [Op.operands]) (by kernel_rfl)).trans rfl
      have f0 : a.tmps.getD 0 undef = .pointer (some ⟨g, 0, none⟩) := e0
      have g0 : a.tmps[0]?.getD undef = .pointer (some ⟨g, 0, none⟩) := by rw [← Array.getD_eq_getD_getElem?]; exact e0
      refine op_val (.pointer (some ⟨g, 0, none⟩)) ?_ hC (Below.refl _ _) (by intro d hd; cases hd; rfl)
      (clear hV hI hC; go_simp <;> (first | rfl | simp | (rw [IntKind.wrap_i64]; omega)))
    case o5 =>
      intro Q a w2 hC hV hI
      have e1 : a.eval (.tmp 1) = .pointer (some ⟨gh, i, none⟩) := (hI 1 (by simp [Op.operands]) (by kernel_rfl)).trans rfl
      have f1 : a.tmps.getD 1 undef = .pointer (some ⟨gh, i, none⟩) := e1
      have g1 : a.tmps[1]?.getD undef = .pointer (some ⟨gh, i, none⟩) := by rw [← Array.getD_eq_getD_getElem?]; exact e1
      refine op_val (.pointer (some ⟨gh, i, none⟩)) ?_ hC (Below.refl _ _) (by intro d hd; cases hd; rfl)
      (clear hV hI hC; go_simp <;> (first | rfl | simp | (rw [IntKind.wrap_i64]; omega)))
    case o6 =>
      intro Q a w2 hC hV hI
      have e5 : a.eval (.tmp 5) = .pointer (some ⟨gh, i, none⟩) := hV 5 (by simp [Op.operands]) (by kernel_rfl)
      have f5 : a.tmps.getD 5 undef = .pointer (some ⟨gh, i, none⟩) := e5
      have g5 : a.tmps[5]?.getD undef = .pointer (some ⟨gh, i, none⟩) := by rw [← Array.getD_eq_getD_getElem?]; exact e5
      refine op_val (.pointer (some ⟨gh, i, none⟩)) ?_ hC (Below.refl _ _) (by intro d hd; cases hd; rfl)
      (clear hV hI hC; go_simp <;> (first | rfl | simp | (rw [IntKind.wrap_i64]; omega)))
    case o7 =>
      intro Q a w2 hC hV hI
      have e6 : a.eval (.tmp 6) = .pointer (some ⟨gh, i, none⟩) := hV 6 (by simp [Op.operands]) (by kernel_rfl)
      have f6 : a.tmps.getD 6 undef = .pointer (some ⟨gh, i, none⟩) := e6
      have g6 : a.tmps[6]?.getD undef = .pointer (some ⟨gh, i, none⟩) := by rw [← Array.getD_eq_getD_getElem?]; exact e6
      have hK := KC.out w2 hC
      refine op_val (.int .i64 x) ?_ hC (Below.refl _ _) (by intro d hd; cases hd; rfl)
      (clear hV hI hC; go_simp <;> (first | rfl | simp | (rw [IntKind.wrap_i64]; omega)))
    case o8 =>
      intro Q a w2 hC hV hI
      have e1 : a.eval (.tmp 1) = .pointer (some ⟨gh, i, none⟩) := (hI 1 (by simp [Op.operands]) (by kernel_rfl)).trans rfl
      have f1 : a.tmps.getD 1 undef = .pointer (some ⟨gh, i, none⟩) := e1
      have g1 : a.tmps[1]?.getD undef = .pointer (some ⟨gh, i, none⟩) := by rw [← Array.getD_eq_getD_getElem?]; exact e1
      refine op_val (.pointer (some ⟨gh, i, none⟩)) ?_ hC (Below.refl _ _) (by intro d hd; cases hd; rfl)
      (clear hV hI hC; go_simp <;> (first | rfl | simp | (rw [IntKind.wrap_i64]; omega)))
    case o9 =>
      intro Q a w2 hC hV hI
      have e8 : a.eval (.tmp 8) = .pointer (some ⟨gh, i, none⟩) := hV 8 (by simp [Op.operands]) (by kernel_rfl)
      have f8 : a.tmps.getD 8 undef = .pointer (some ⟨gh, i, none⟩) := e8
      have g8 : a.tmps[8]?.getD undef = .pointer (some ⟨gh, i, none⟩) := by rw [← Array.getD_eq_getD_getElem?]; exact e8
      refine op_val (.pointer (some ⟨gh, i, none⟩)) ?_ hC (Below.refl _ _) (by intro d hd; cases hd; rfl)
      (clear hV hI hC; go_simp <;> (first | rfl | simp | (rw [IntKind.wrap_i64]; omega)))
    case o10 =>
      intro Q a w2 hC hV hI
      have e9 : a.eval (.tmp 9) = .pointer (some ⟨gh, i, none⟩) := hV 9 (by simp [Op.operands]) (by kernel_rfl)
      have f9 : a.tmps.getD 9 undef = .pointer (some ⟨gh, i, none⟩) := e9
      have g9 : a.tmps[9]?.getD undef = .pointer (some ⟨gh, i, none⟩) := by rw [← Array.getD_eq_getD_getElem?]; exact e9
      have hK := KC.out w2 hC
      refine op_val (.int .i64 x) ?_ hC (Below.refl _ _) (by intro d hd; cases hd; rfl)
      (clear hV hI hC; go_simp <;> (first | rfl | simp | (rw [IntKind.wrap_i64]; omega)))
    case o11 =>
      intro Q a w2 hC hV hI
      have e0 : a.eval (.tmp 0) = .pointer (some ⟨g, 0, none⟩) := (hI 0 (by simp [Op.operands]) (by kernel_rfl)).trans rfl
      have f0 : a.tmps.getD 0 undef = .pointer (some ⟨g, 0, none⟩) := e0
      have g0 : a.tmps[0]?.getD undef = .pointer (some ⟨g, 0, none⟩) := by rw [← Array.getD_eq_getD_getElem?]; exact e0
      refine op_val (.pointer (some ⟨g, 0, none⟩)) ?_ hC (Below.refl _ _) (by intro d hd; cases hd; rfl)
      (clear hV hI hC; go_simp <;> (first | rfl | simp | (rw [IntKind.wrap_i64]; omega)))
    case o12 =>
      intro Q a w2 hC hV hI
      have e11 : a.eval (.tmp 11) = .pointer (some ⟨g, 0, none⟩) := hV 11 (by simp [Op.operands]) (by kernel_rfl)
      have f11 : a.tmps.getD 11 undef = .pointer (some ⟨g, 0, none⟩) := e11
      have g11 : a.tmps[11]?.getD undef = .pointer (some ⟨g, 0, none⟩) := by rw [← Array.getD_eq_getD_getElem?]; exact e11
      refine op_val (.pointer (some ⟨g, 0, none⟩)) ?_ hC (Below.refl _ _) (by intro d hd; cases hd; rfl)
      (clear hV hI hC; go_simp <;> (first | rfl | simp | (rw [IntKind.wrap_i64]; omega)))
    case o13 =>
      intro Q a w2 hC hV hI
      have e12 : a.eval (.tmp 12) = .pointer (some ⟨g, 0, none⟩) := hV 12 (by simp [Op.operands]) (by kernel_rfl)
      have f12 : a.tmps.getD 12 undef = .pointer (some ⟨g, 0, none⟩) := e12
      have g12 : a.tmps[12]?.getD undef = .pointer (some ⟨g, 0, none⟩) := by rw [← Array.getD_eq_getD_getElem?]; exact e12
      refine op_val (.pointer (some ⟨g, 0, none⟩)) ?_ hC (Below.refl _ _) (by intro d hd; cases hd; rfl)
      (clear hV hI hC; go_simp <;> (first | rfl | simp | (rw [IntKind.wrap_i64]; omega)))
    case o14 =>
      intro Q a w2 hC hV hI
      have e13 : a.eval (.tmp 13) = .pointer (some ⟨g, 0, none⟩) := hV 13 (by simp [Op.operands]) (by kernel_rfl)
      have f13 : a.tmps.getD 13 undef = .pointer (some ⟨g, 0, none⟩) := e13
      have g13 : a.tmps[13]?.getD undef = .pointer (some ⟨g, 0, none⟩) := by rw [← Array.getD_eq_getD_getElem?]; exact e13
      have hK := KC.out w2 hC
      refine op_val (.bool hi) ?_ hC (Below.refl _ _) (by intro d hd; cases hd; rfl)
      (clear hV hI hC; go_simp <;> (first | rfl | simp | (rw [IntKind.wrap_i64]; omega)))
    case o15 =>
      intro Q a w2 hC hV hI
      have e10 : a.eval (.tmp 10) = .int .i64 x := hV 10 (by simp [Op.operands, Call.operands]) (by kernel_rfl)
      have f10 : a.tmps.getD 10 undef = .int .i64 x := e10
      have g10 : a.tmps[10]?.getD undef = .int .i64 x := by rw [← Array.getD_eq_getD_getElem?]; exact e10
      have e14 : a.eval (.tmp 14) = .bool hi := hV 14 (by simp [Op.operands, Call.operands]) (by kernel_rfl)
      have f14 : a.tmps.getD 14 undef = .bool hi := e14
      have g14 : a.tmps[14]?.getD undef = .bool hi := by rw [← Array.getD_eq_getD_getElem?]; exact e14
      refine op_call (f := 100) (args := #[.int .i64 x, .bool hi]) (R := fun v y => v = .string q ∧ Below w2.heap.size w2 y) ?_ ((HP.out w2).mono ?_) ?_
      · (clear hV hI hC; go_simp <;> (first | rfl | simp | (rw [IntKind.wrap_i64]; omega)))
      · rintro e y ⟨rfl, hb⟩; exact ⟨_, rfl, rfl, hb⟩
      · rintro v y ⟨rfl, hb⟩; exact ⟨hC.trans (hb.mono hC.size), hb, by intro d hd; cases hd; rfl⟩
  case hend =>
    intro f w2 hC hall
    simp only [List.take_succ_cons, List.take_zero, List.drop_succ_cons, List.drop_zero] at hall ⊢
    simp only [List.forall_mem_cons] at hall
    obtain ⟨h4, h5, h6, h7, h8, h9, h10, h11, h12, h13, h14, h15, _⟩ := hall
    replace h4 : f 4 = .pointer (some ⟨g, 0, none⟩) := h4 4 rfl
    replace h5 : f 5 = .pointer (some ⟨gh, i, none⟩) := h5 5 rfl
    replace h6 : f 6 = .pointer (some ⟨gh, i, none⟩) := h6 6 rfl
    replace h7 : f 7 = .int .i64 x := h7 7 rfl
    replace h8 : f 8 = .pointer (some ⟨gh, i, none⟩) := h8 8 rfl
    replace h9 : f 9 = .pointer (some ⟨gh, i, none⟩) := h9 9 rfl
    replace h10 : f 10 = .int .i64 x := h10 10 rfl
    replace h11 : f 11 = .pointer (some ⟨g, 0, none⟩) := h11 11 rfl
    replace h12 : f 12 = .pointer (some ⟨g, 0, none⟩) := h12 12 rfl
    replace h13 : f 13 = .pointer (some ⟨g, 0, none⟩) := h13 13 rfl
    replace h14 : f 14 = .bool hi := h14 14 rfl
    replace h15 : f 15 = .string q := h15 15 rfl
    simp only [putAll, Act.put, List.setIfInBounds_toArray, List.set_cons_succ, List.set_cons_zero, h4, h5, h6, h7, h8, h9, h10, h11, h12, h13, h14, h15]
    clear h4 h5 h6 h7 h8 h9 h10 h11 h12 h13 h14 h15
    go_wp2_with fail
    refine (HA.out _ (HW.out _ hC)).mono ?_
    rintro e w3 ⟨rfl, hw3, hb3⟩
    have B3 := (hC.mono (Nat.le_of_lt hlt)).trans hb3
    clear KC HW HA HP hC hb3
    go_wp2_with fail
    refine bodyPost_end (results_none rfl _ _ _) rfl ?_
    exact ⟨rfl, hw3, B3⟩
set_option maxRecDepth 8000 in
theorem made_w (g : Nat) (hi : Bool) (l : List UInt8) (rf : Bool) (w : World) (h : WrO w g hi l rf) :
    Calls Try.prog 97 #[.pointer (some ⟨g, 0, none⟩)] w fun e w' => e = .returned (.string (if rf then ⟨#[]⟩ else ⟨l.toArray⟩)) ∧ w' = w := by
  obtain ⟨v, hg, ho⟩ := h
  have c1 : w.cell? ⟨g, 1, none⟩ = some v := by simp [World.cell?, hg]
  have c2 : w.cell? ⟨g, 2, none⟩ = some (.bool rf) := by simp [World.cell?, hg]
  have hc := ho.conv
  clear hg
  obtain ⟨ao, nn, cc, rfl⟩ : ∃ ao nn cc, v = .slice ao nn cc := by
    rcases ho.2 with ⟨h9, _⟩ | ⟨_, _, _, h9, _⟩
    · exact ⟨_, _, _, h9⟩
    · exact ⟨_, _, _, h9⟩
  clear ho
  generalize (⟨l.toArray⟩ : ByteArray) = r at *
  cases rf with
  | true =>
    go_enter Try.func97, Try.ntmps97
    go_wp2_with fail
    go_ret
    exact ⟨rfl, rfl⟩
  | false =>
    go_enter Try.func97, Try.ntmps97
    go_wp2_with fail
    go_ret
    exact ⟨rfl, rfl⟩
end Go.Proofs.Ytancidbbkoeokaa
