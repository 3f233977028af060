/- Contracts of impl.inode and impl.cardOf. -/
import Derived.Test.YtpimeekcnndhiaaCardMath
import Derived.Test.YtpimeekcnndhiaaCardO
import Derived.Test.YtpimeekcnndhiaaEntO
import Derived.Test.YtpimeekcnndhiaaRegSl
import Derived.Test.YtpimeekcnndhiaaFindI
import Derived.Test.YtpimeekcnndhiaaClone
import Derived.Deep.DeepCutAuto
import Derived.OwnWalk
namespace Go.Proofs.Ytpimeekcnndhiaa
open Go.ChangeShapes Go.WideShapes Go.ChangeAt Go.RowKit Go.Deep

theorem find_bds2 (L : List Ent) (p : ByteArray) : -1 ≤ findv L p ∧ findv L p ≤ L.length := by
  rcases find_cases L p with h | ⟨a, e, h, he, _⟩
  · omega
  · have := (List.getElem?_eq_some_iff.1 he).1
    omega
set_option maxHeartbeats 1600000 in
theorem ino_impl (L : List Ent) (i : Nat) (e : Ent) (n g cap : Nat) (w : World) (he : L[i]? = some e) (hn : n = L.length) (hm : n ≤ 4194304) (hg : g < w.heap.size) (h1 : RowE w g L) :
    Calls Try.prog 32 #[.slice (some ⟨g, 0, none⟩) n cap, .int .i64 i] w fun e' w' => e' = .returned (.int .i64 (inov L i e)) ∧ Below w.heap.size w w' := by
  have hlt : i < n := by rw [hn]; exact (List.getElem?_eq_some_iff.1 he).1
  have hlt2 : (i : Int) < (n : Int) := by omega
  have H1 := Lib.hid (find_impl L e.link n g cap w hn hm hg h1)
  have HB := find_bds2 L e.link
  have HI : Hid (inov L i e = if e.kind = 3 then findv L e.link + 1 else (i : Int) + 1) := Lib.hid rfl
  obtain ⟨c0, c1, c2, c3, c4, c5, c6, c7, c8, c9⟩ := h1.ten he
  generalize inov L i e = r at HI
  generalize findv L e.link = f at H1 HI HB
  clear h1 he c1 c3 c4 c5 c6 c7 c8 c9
  obtain ⟨k, p, l, m, u, g0, t, us, gr, b⟩ := e
  by_cases hk : k = 3
  · subst hk
    have HF : Hid (r = f + 1) := Lib.hid (by rw [HI.out, if_pos rfl])
    have hb0 : f ≤ 4194304 := by omega
    have hb1 : -1 ≤ f := by omega
    clear HI HB hn
    go_enter Try.func32, Try.ntmps32
    go_wp2_with fail
    refine H1.out.mono ?_
    rintro e w1 ⟨rfl, hb⟩
    have B := Lib.hid hb
    clear hb
    go_wp2_with fail
    go_ret
    exact ⟨by rw [HF.out]; go_num, B.out⟩
  · have hk2 : (k == 3) = false := by simpa using hk
    have HF : Hid (r = (i : Int) + 1) := Lib.hid (by rw [HI.out, if_neg hk])
    clear HI HB hk hn
    go_enter Try.func32, Try.ntmps32
    go_wp2_with fail
    go_ret
    exact ⟨by rw [HF.out]; go_num, Below.refl _ _⟩
set_option maxHeartbeats 3200000 in
set_option maxRecDepth 8000 in
theorem cardOf_dir (p l : ByteArray) (m u1 gi t : Int) (us gr b : ByteArray) (ino : Int) (w : World) (hp : p.size ≤ 4194304) (hm0 : 0 ≤ m) (hm1 : m ≤ 4095) :
    Calls Try.prog 31 #[.agg #[.int .i64 1, .string p, .string l, .int .i64 m, .int .i64 u1, .int .i64 gi, .int .i64 t, .string us, .string gr, .string b], .int .i64 ino] w fun e w' => e = .returned (.agg #[.int .i64 ino, .int .i64 (m + 16384), .int .i64 u1, .int .i64 gi, .int .i64 0, .int .i64 t, .string p, .string ⟨#[]⟩]) ∧ Below w.heap.size w w' := by
  have HC := Lib.hid (fun w => clone_any p w (by omega))
  go_enter Try.func31, Try.ntmps31
  go_upto_region 1 with fail
  generalize hw1 : World.alloc (World.alloc w _) _ = w1
  have EO : Hid (EntO w1 w.heap.size ⟨1, p, l, m, u1, gi, t, us, gr, b⟩) := Lib.hid (by rw [← hw1]; exact (EntO.new w ⟨1, p, l, m, u1, gi, t, us, gr, b⟩).below (B := w.heap.size + 1) ((Below.refl _ _).alloc (by simp) _) (by omega))
  have RO : Hid (CardO w1 (w.heap.size + 1) zeroC) := Lib.hid (by rw [← hw1]; exact CardO.newAt (w.alloc (.cells (Ent.cells ⟨1, p, l, m, u1, gi, t, us, gr, b⟩).toArray 43)) zeroC _ (by simp))
  have B0 : Hid (Below w.heap.size w w1) := Lib.hid (by rw [← hw1]; exact ((Below.refl _ _).alloc (Nat.le_refl _) _).alloc (by simp) _)
  have hs1 : w1.heap.size = w.heap.size + 2 := by rw [← hw1]; simp
  clear hw1
  have KC : Hid (∀ w', Below w1.heap.size w1 w' → w'.cell? ⟨w.heap.size, 1, none⟩ = some (.string p) ∧ w'.cell? ⟨w.heap.size, 3, none⟩ = some (.int .i64 m) ∧ w'.cell? ⟨w.heap.size, 4, none⟩ = some (.int .i64 u1) ∧ w'.cell? ⟨w.heap.size, 5, none⟩ = some (.int .i64 gi) ∧ w'.cell? ⟨w.heap.size, 6, none⟩ = some (.int .i64 t)) := Lib.hid (fun w' hb => by
    obtain ⟨d0, d1, d2, d3, d4, d5, d6, d7, d8, d9⟩ := (EO.out.below hb (by omega)).at.zero
    exact ⟨d1, d3, d4, d5, d6⟩)
  refine wp_region_cut 14 (by kernel_rfl) (fun w' => Below w1.heap.size w1 w') (fun x y => Below x.heap.size x y) (vBxG 5 47 w1.heap.size #[.int .i64 0, .int .i64 0, .int .i64 0, .int .i64 0, .int .i64 0, .int .i64 0, .string ⟨#[]⟩, .string ⟨#[]⟩] (fun d v => match d with | 6 => v = .int .i64 ino | 7 => v = .pointer (some ⟨w.heap.size, 3, none⟩) | 8 => v = .int .i64 m | 9 => v = .pointer (some ⟨w.heap.size, 4, none⟩) | 10 => v = .int .i64 u1 | 11 => v = .pointer (some ⟨w.heap.size, 5, none⟩) | 12 => v = .int .i64 gi | 13 => v = .pointer (some ⟨w.heap.size, 6, none⟩) | 14 => v = .int .i64 t | 15 => v = .pointer (some ⟨w.heap.size, 1, none⟩) | 16 => v = .string p | 17 => v = .string p | 18 => v = .agg #[.int .i64 ino, .int .i64 m, .int .i64 u1, .int .i64 gi, .int .i64 0, .int .i64 t, .string p, .string ⟨#[]⟩] | _ => True)) (by kernel_rfl) (by kernel_rfl) ((Below.refl _ _).drew) (vBxG_keep _ _ _ _ _) (by simp) ?hops ?hend
  case hops =>
    simp only [List.take_succ_cons, List.take_zero, List.forall_mem_cons]
    refine ⟨?o6, ?o7, ?o8, ?o9, ?o10, ?o11, ?o12, ?o13, ?o14, ?o15, ?o16, ?o17, ?o18, ?o5, fun _ h => by cases h⟩
    case o6 =>
      intro Q a w2 hC hV hI
      have e1 : a.eval (.tmp 1) = .int .i64 ino := (hI 1 (by simp [Op.operands]) (by kernel_rfl)).trans rfl
      have f1 : a.tmps.getD 1 undef = .int .i64 ino := e1
      have g1 : a.tmps[1]?.getD undef = .int .i64 ino := by rw [← Array.getD_eq_getD_getElem?]; exact e1
      refine op_val (.int .i64 ino) ?_ hC (Below.refl _ _) (by intro d hd; cases hd; exact rfl)
      (clear hV hI hC; go_simp <;> (first | rfl | simp | (rw [IntKind.wrap_i64]; omega)))
    case o7 =>
      intro Q a w2 hC hV hI
      have e2 : a.eval (.tmp 2) = .pointer (some ⟨w.heap.size, 0, none⟩) := (hI 2 (by simp [Op.operands]) (by kernel_rfl)).trans rfl
      have f2 : a.tmps.getD 2 undef = .pointer (some ⟨w.heap.size, 0, none⟩) := e2
      have g2 : a.tmps[2]?.getD undef = .pointer (some ⟨w.heap.size, 0, none⟩) := by rw [← Array.getD_eq_getD_getElem?]; exact e2
      refine op_val (.pointer (some ⟨w.heap.size, 3, none⟩)) ?_ hC (Below.refl _ _) (by intro d hd; cases hd; exact rfl)
      (clear hV hI hC; go_simp <;> (first | rfl | simp | (rw [IntKind.wrap_i64]; omega)))
    case o8 =>
      intro Q a w2 hC hV hI
      have e7 : a.eval (.tmp 7) = .pointer (some ⟨w.heap.size, 3, none⟩) := hV 7 (by simp [Op.operands]) (by kernel_rfl)
      have f7 : a.tmps.getD 7 undef = .pointer (some ⟨w.heap.size, 3, none⟩) := e7
      have g7 : a.tmps[7]?.getD undef = .pointer (some ⟨w.heap.size, 3, none⟩) := by rw [← Array.getD_eq_getD_getElem?]; exact e7
      have hK := KC.out w2 hC
      refine op_val (.int .i64 m) ?_ hC (Below.refl _ _) (by intro d hd; cases hd; exact rfl)
      (clear hV hI hC; go_simp <;> (first | rfl | simp | (rw [IntKind.wrap_i64]; omega)))
    case o9 =>
      intro Q a w2 hC hV hI
      have e2 : a.eval (.tmp 2) = .pointer (some ⟨w.heap.size, 0, none⟩) := (hI 2 (by simp [Op.operands]) (by kernel_rfl)).trans rfl
      have f2 : a.tmps.getD 2 undef = .pointer (some ⟨w.heap.size, 0, none⟩) := e2
      have g2 : a.tmps[2]?.getD undef = .pointer (some ⟨w.heap.size, 0, none⟩) := by rw [← Array.getD_eq_getD_getElem?]; exact e2
      refine op_val (.pointer (some ⟨w.heap.size, 4, none⟩)) ?_ hC (Below.refl _ _) (by intro d hd; cases hd; exact rfl)
      (clear hV hI hC; go_simp <;> (first | rfl | simp | (rw [IntKind.wrap_i64]; omega)))
    case o10 =>
      intro Q a w2 hC hV hI
      have e9 : a.eval (.tmp 9) = .pointer (some ⟨w.heap.size, 4, none⟩) := hV 9 (by simp [Op.operands]) (by kernel_rfl)
      have f9 : a.tmps.getD 9 undef = .pointer (some ⟨w.heap.size, 4, none⟩) := e9
      have g9 : a.tmps[9]?.getD undef = .pointer (some ⟨w.heap.size, 4, none⟩) := by rw [← Array.getD_eq_getD_getElem?]; exact e9
      have hK := KC.out w2 hC
      refine op_val (.int .i64 u1) ?_ hC (Below.refl _ _) (by intro d hd; cases hd; exact rfl)
      (clear hV hI hC; go_simp <;> (first | rfl | simp | (rw [IntKind.wrap_i64]; omega)))
    case o11 =>
      intro Q a w2 hC hV hI
      have e2 : a.eval (.tmp 2) = .pointer (some ⟨w.heap.size, 0, none⟩) := (hI 2 (by simp [Op.operands]) (by kernel_rfl)).trans rfl
      have f2 : a.tmps.getD 2 undef = .pointer (some ⟨w.heap.size, 0, none⟩) := e2
      have g2 : a.tmps[2]?.getD undef = .pointer (some ⟨w.heap.size, 0, none⟩) := by rw [← Array.getD_eq_getD_getElem?]; exact e2
      refine op_val (.pointer (some ⟨w.heap.size, 5, none⟩)) ?_ hC (Below.refl _ _) (by intro d hd; cases hd; exact rfl)
      (clear hV hI hC; go_simp <;> (first | rfl | simp | (rw [IntKind.wrap_i64]; omega)))
    case o12 =>
      intro Q a w2 hC hV hI
      have e11 : a.eval (.tmp 11) = .pointer (some ⟨w.heap.size, 5, none⟩) := hV 11 (by simp [Op.operands]) (by kernel_rfl)
      have f11 : a.tmps.getD 11 undef = .pointer (some ⟨w.heap.size, 5, none⟩) := e11
      have g11 : a.tmps[11]?.getD undef = .pointer (some ⟨w.heap.size, 5, none⟩) := by rw [← Array.getD_eq_getD_getElem?]; exact e11
      have hK := KC.out w2 hC
      refine op_val (.int .i64 gi) ?_ hC (Below.refl _ _) (by intro d hd; cases hd; exact rfl)
      (clear hV hI hC; go_simp <;> (first | rfl | simp | (rw [IntKind.wrap_i64]; omega)))
    case o13 =>
      intro Q a w2 hC hV hI
      have e2 : a.eval (.tmp 2) = .pointer (some ⟨w.heap.size, 0, none⟩) := (hI 2 (by simp [Op.operands]) (by kernel_rfl)).trans rfl
      have f2 : a.tmps.getD 2 undef = .pointer (some ⟨w.heap.size, 0, none⟩) := e2
      have g2 : a.tmps[2]?.getD undef = .pointer (some ⟨w.heap.size, 0, none⟩) := by rw [← Array.getD_eq_getD_getElem?]; exact e2
      refine op_val (.pointer (some ⟨w.heap.size, 6, none⟩)) ?_ hC (Below.refl _ _) (by intro d hd; cases hd; exact rfl)
      (clear hV hI hC; go_simp <;> (first | rfl | simp | (rw [IntKind.wrap_i64]; omega)))
    case o14 =>
      intro Q a w2 hC hV hI
      have e13 : a.eval (.tmp 13) = .pointer (some ⟨w.heap.size, 6, none⟩) := hV 13 (by simp [Op.operands]) (by kernel_rfl)
      have f13 : a.tmps.getD 13 undef = .pointer (some ⟨w.heap.size, 6, none⟩) := e13
      have g13 : a.tmps[13]?.getD undef = .pointer (some ⟨w.heap.size, 6, none⟩) := by rw [← Array.getD_eq_getD_getElem?]; exact e13
      have hK := KC.out w2 hC
      refine op_val (.int .i64 t) ?_ hC (Below.refl _ _) (by intro d hd; cases hd; exact rfl)
      (clear hV hI hC; go_simp <;> (first | rfl | simp | (rw [IntKind.wrap_i64]; omega)))
    case o15 =>
      intro Q a w2 hC hV hI
      have e2 : a.eval (.tmp 2) = .pointer (some ⟨w.heap.size, 0, none⟩) := (hI 2 (by simp [Op.operands]) (by kernel_rfl)).trans rfl
      have f2 : a.tmps.getD 2 undef = .pointer (some ⟨w.heap.size, 0, none⟩) := e2
      have g2 : a.tmps[2]?.getD undef = .pointer (some ⟨w.heap.size, 0, none⟩) := by rw [← Array.getD_eq_getD_getElem?]; exact e2
      refine op_val (.pointer (some ⟨w.heap.size, 1, none⟩)) ?_ hC (Below.refl _ _) (by intro d hd; cases hd; exact rfl)
      (clear hV hI hC; go_simp <;> (first | rfl | simp | (rw [IntKind.wrap_i64]; omega)))
    case o16 =>
      intro Q a w2 hC hV hI
      have e15 : a.eval (.tmp 15) = .pointer (some ⟨w.heap.size, 1, none⟩) := hV 15 (by simp [Op.operands]) (by kernel_rfl)
      have f15 : a.tmps.getD 15 undef = .pointer (some ⟨w.heap.size, 1, none⟩) := e15
      have g15 : a.tmps[15]?.getD undef = .pointer (some ⟨w.heap.size, 1, none⟩) := by rw [← Array.getD_eq_getD_getElem?]; exact e15
      have hK := KC.out w2 hC
      refine op_val (.string p) ?_ hC (Below.refl _ _) (by intro d hd; cases hd; exact rfl)
      (clear hV hI hC; go_simp <;> (first | rfl | simp | (rw [IntKind.wrap_i64]; omega)))
    case o17 =>
      intro Q a w2 hC hV hI
      have e16 : a.eval (.tmp 16) = .string p := hV 16 (by simp [Op.operands, Call.operands]) (by kernel_rfl)
      have f16 : a.tmps.getD 16 undef = .string p := e16
      have g16 : a.tmps[16]?.getD undef = .string p := by rw [← Array.getD_eq_getD_getElem?]; exact e16
      refine op_call (f := 50) (args := #[.string p]) (R := fun v y => v = .string p ∧ Below w2.heap.size w2 y) ?_ ((HC.out w2).mono ?_) ?_
      · (clear hV hI hC; go_simp <;> (first | rfl | simp | (rw [IntKind.wrap_i64]; omega)))
      · rintro e y ⟨rfl, hb⟩; exact ⟨_, rfl, rfl, hb⟩
      · rintro v y ⟨rfl, hb⟩; exact ⟨hC.trans (hb.mono hC.size), hb, by intro d hd; cases hd; exact rfl⟩
    case o18 =>
      intro Q a w2 hC hV hI
      have e6 : a.eval (.tmp 6) = .int .i64 ino := hV 6 (by simp [Op.operands]) (by kernel_rfl)
      have f6 : a.tmps.getD 6 undef = .int .i64 ino := e6
      have g6 : a.tmps[6]?.getD undef = .int .i64 ino := by rw [← Array.getD_eq_getD_getElem?]; exact e6
      have e8 : a.eval (.tmp 8) = .int .i64 m := hV 8 (by simp [Op.operands]) (by kernel_rfl)
      have f8 : a.tmps.getD 8 undef = .int .i64 m := e8
      have g8 : a.tmps[8]?.getD undef = .int .i64 m := by rw [← Array.getD_eq_getD_getElem?]; exact e8
      have e10 : a.eval (.tmp 10) = .int .i64 u1 := hV 10 (by simp [Op.operands]) (by kernel_rfl)
      have f10 : a.tmps.getD 10 undef = .int .i64 u1 := e10
      have g10 : a.tmps[10]?.getD undef = .int .i64 u1 := by rw [← Array.getD_eq_getD_getElem?]; exact e10
      have e12 : a.eval (.tmp 12) = .int .i64 gi := hV 12 (by simp [Op.operands]) (by kernel_rfl)
      have f12 : a.tmps.getD 12 undef = .int .i64 gi := e12
      have g12 : a.tmps[12]?.getD undef = .int .i64 gi := by rw [← Array.getD_eq_getD_getElem?]; exact e12
      have e14 : a.eval (.tmp 14) = .int .i64 t := hV 14 (by simp [Op.operands]) (by kernel_rfl)
      have f14 : a.tmps.getD 14 undef = .int .i64 t := e14
      have g14 : a.tmps[14]?.getD undef = .int .i64 t := by rw [← Array.getD_eq_getD_getElem?]; exact e14
      have e17 : a.eval (.tmp 17) = .string p := hV 17 (by simp [Op.operands]) (by kernel_rfl)
      have f17 : a.tmps.getD 17 undef = .string p := e17
      have g17 : a.tmps[17]?.getD undef = .string p := by rw [← Array.getD_eq_getD_getElem?]; exact e17
      refine op_val (.agg #[.int .i64 ino, .int .i64 m, .int .i64 u1, .int .i64 gi, .int .i64 0, .int .i64 t, .string p, .string ⟨#[]⟩]) ?_ hC (Below.refl _ _) (by intro d hd; cases hd; exact rfl)
      (clear hV hI hC; go_simp <;> (first | rfl | simp | (rw [IntKind.wrap_i64]; omega)))
    case o5 =>
      intro Q a w2 hC hV hI
      refine op_val (.pointer (some ⟨w2.heap.size, 0, none⟩)) (w' := w2.alloc (.cells #[.int .i64 0, .int .i64 0, .int .i64 0, .int .i64 0, .int .i64 0, .int .i64 0, .string ⟨#[]⟩, .string ⟨#[]⟩] 47)) ?_ (hC.alloc hC.size _) ((Below.refl _ _).alloc (Nat.le_refl _) _) ?_
      · (clear hV hI hC; go_simp <;> (first | rfl | simp | (rw [IntKind.wrap_i64]; omega)))
      · intro d hd; cases hd; exact ⟨w2.heap.size, rfl, hC.size, heap_lastG _ _⟩
  case hend =>
    intro f w2 hC hall
    simp only [List.take_succ_cons, List.take_zero, List.drop_succ_cons, List.drop_zero] at hall ⊢
    simp only [List.forall_mem_cons] at hall
    obtain ⟨h6, h7, h8, h9, h10, h11, h12, h13, h14, h15, h16, h17, h18, h5, _⟩ := hall
    replace h6 : f 6 = .int .i64 ino := h6 6 rfl
    replace h7 : f 7 = .pointer (some ⟨w.heap.size, 3, none⟩) := h7 7 rfl
    replace h8 : f 8 = .int .i64 m := h8 8 rfl
    replace h9 : f 9 = .pointer (some ⟨w.heap.size, 4, none⟩) := h9 9 rfl
    replace h10 : f 10 = .int .i64 u1 := h10 10 rfl
    replace h11 : f 11 = .pointer (some ⟨w.heap.size, 5, none⟩) := h11 11 rfl
    replace h12 : f 12 = .int .i64 gi := h12 12 rfl
    replace h13 : f 13 = .pointer (some ⟨w.heap.size, 6, none⟩) := h13 13 rfl
    replace h14 : f 14 = .int .i64 t := h14 14 rfl
    replace h15 : f 15 = .pointer (some ⟨w.heap.size, 1, none⟩) := h15 15 rfl
    replace h16 : f 16 = .string p := h16 16 rfl
    replace h17 : f 17 = .string p := h17 17 rfl
    replace h18 : f 18 = .agg #[.int .i64 ino, .int .i64 m, .int .i64 u1, .int .i64 gi, .int .i64 0, .int .i64 t, .string p, .string ⟨#[]⟩] := h18 18 rfl
    obtain ⟨G5, hG5, hGB5, hGO5⟩ : ∃ G, f 5 = .pointer (some ⟨G, 0, none⟩) ∧ w1.heap.size ≤ G ∧ w2.heap[G]? = some (.cells #[.int .i64 0, .int .i64 0, .int .i64 0, .int .i64 0, .int .i64 0, .int .i64 0, .string ⟨#[]⟩, .string ⟨#[]⟩] 47 (0, 0)) := h5 5 rfl
    simp only [putAll, Act.put, List.setIfInBounds_toArray, List.set_cons_succ, List.set_cons_zero, h6, h7, h8, h9, h10, h11, h12, h13, h14, h15, h16, h17, h18, hG5]
    clear h6 h7 h8 h9 h10 h11 h12 h13 h14 h15 h16 h17 h18 hG5 h5
    clear KC
    replace EO := Lib.hid (EO.out.below hC (by omega))
    replace RO := Lib.hid (RO.out.below hC (by omega))
    have hB2 := btE B0.out (hC.mono (Nat.le_refl _))
    have XO : CardO w2 G5 zeroC := hGO5
    have hne0 : ¬ w.heap.size = G5 := by omega
    have hne1 : ¬ w.heap.size + 1 = G5 := by omega
    have hlt5 : w.heap.size ≤ G5 := by omega
    obtain ⟨d0, d1, d2, d3, d4, d5, d6, d7⟩ := XO.at.zero
    have f0 := XO.fz 0
    have f1 := XO.fz 1
    have f2 := XO.fz 2
    have f3 := XO.fz 3
    have f4 := XO.fz 4
    have f5 := XO.fz 5
    have f6 := XO.fz 6
    have f7 := XO.fz 7
    have XP := XO.put ⟨ino, m, u1, gi, 0, t, p, ⟨#[]⟩⟩
    have EP : EntO (putOC w2 G5 ⟨ino, m, u1, gi, 0, t, p, ⟨#[]⟩⟩) w.heap.size ⟨1, p, l, m, u1, gi, t, us, gr, b⟩ := (putOC_other hne0).trans EO.out
    have RP : CardO (putOC w2 G5 ⟨ino, m, u1, gi, 0, t, p, ⟨#[]⟩⟩) (w.heap.size + 1) zeroC := (putOC_other hne1).trans RO.out
    have BP := below_putOC (g := G5) hB2 hlt5 ⟨ino, m, u1, gi, 0, t, p, ⟨#[]⟩⟩
    simp only [putOC] at XP EP RP BP
    go_upto_region 2 with fail
    obtain ⟨w3, hw3⟩ : ∃ x, x = ((((((((w2.setCell ⟨G5, 0, none⟩ (.int .i64 ino)).setCell ⟨G5, 1, none⟩ (.int .i64 m)).setCell ⟨G5, 2, none⟩ (.int .i64 u1)).setCell ⟨G5, 3, none⟩ (.int .i64 gi)).setCell ⟨G5, 4, none⟩ (.int .i64 0)).setCell ⟨G5, 5, none⟩ (.int .i64 t)).setCell ⟨G5, 6, none⟩ (.string p)).setCell ⟨G5, 7, none⟩ (.string ⟨#[]⟩)) := ⟨_, rfl⟩
    rw [← hw3] at XP EP RP BP ⊢
    have X := Lib.hid XP
    have R := Lib.hid RP
    have Bw := Lib.hid BP
    obtain ⟨e0, e1, e2, e3, e4, e5, e6, e7, e8, e9⟩ := EP.at.zero
    clear XP RP BP hw3 d0 d1 d2 d3 d4 d5 d6 d7 f0 f1 f2 f3 f4 f5 f6 f7 XO hGO5 hB2 EO RO
    obtain ⟨d0, d1, d2, d3, d4, d5, d6, d7⟩ := X.out.at.zero
    have f1 := X.out.fz 1
    have XP := X.out.set (e' := ⟨ino, m + 16384, u1, gi, 0, t, p, ⟨#[]⟩⟩) 1 (.int .i64 (m + 16384)) rfl
    have RP : CardO (w3.setCell ⟨G5, 1, none⟩ (.int .i64 (m + 16384))) (w.heap.size + 1) zeroC := R.out.other hne1
    have EP2 : EntO (w3.setCell ⟨G5, 1, none⟩ (.int .i64 (m + 16384))) w.heap.size ⟨1, p, l, m, u1, gi, t, us, gr, b⟩ := EP.other hne0
    have BP := Bw.out.setCell (p := ⟨G5, 1, none⟩) hlt5 (.int .i64 (m + 16384))
    go_upto_region 10 with fail
    obtain ⟨w6, hw6⟩ : ∃ x, x = w3.setCell ⟨G5, 1, none⟩ (.int .i64 (m + 16384)) := ⟨_, rfl⟩
    rw [← hw6] at XP RP BP EP2 ⊢
    clear hw6 EP2 e0 e1 e2 e3 e4 e5 e6 e7 e8 e9 d0 d1 d2 d3 d4 d5 d6 d7 f1 EP X R Bw
    obtain ⟨x0, x1, x2, x3, x4, x5, x6, x7⟩ := XP.at.zero
    obtain ⟨d0, d1, d2, d3, d4, d5, d6, d7⟩ := RP.at.zero
    have f0 := RP.fz 0
    have f1 := RP.fz 1
    have f2 := RP.fz 2
    have f3 := RP.fz 3
    have f4 := RP.fz 4
    have f5 := RP.fz 5
    have f6 := RP.fz 6
    have f7 := RP.fz 7
    have R9 := RP.put ⟨ino, m + 16384, u1, gi, 0, t, p, ⟨#[]⟩⟩
    have B9 := below_putOC (g := w.heap.size + 1) BP (by omega) ⟨ino, m + 16384, u1, gi, 0, t, p, ⟨#[]⟩⟩
    simp only [putOC] at R9 B9
    go_wp2_with fail
    refine bodyPost_ret (res_OC1 rfl _ rfl R9) rfl ?_
    exact ⟨rfl, B9⟩
set_option maxHeartbeats 3200000 in
set_option maxRecDepth 8000 in
theorem cardOf_sym (p l : ByteArray) (m u1 gi t : Int) (us gr b : ByteArray) (ino : Int) (w : World) (hp : p.size ≤ 4194304) (hl : l.size ≤ 4194304) (hm0 : 0 ≤ m) (hm1 : m ≤ 4095) :
    Calls Try.prog 31 #[.agg #[.int .i64 2, .string p, .string l, .int .i64 m, .int .i64 u1, .int .i64 gi, .int .i64 t, .string us, .string gr, .string b], .int .i64 ino] w fun e w' => e = .returned (.agg #[.int .i64 ino, .int .i64 (m + 40960), .int .i64 u1, .int .i64 gi, .int .i64 0, .int .i64 t, .string p, .string l]) ∧ Below w.heap.size w w' := by
  have HC := Lib.hid (fun w => clone_any p w (by omega))
  have HD := Lib.hid (fun w => clone_any l w (by omega))
  go_enter Try.func31, Try.ntmps31
  go_upto_region 1 with fail
  generalize hw1 : World.alloc (World.alloc w _) _ = w1
  have EO : Hid (EntO w1 w.heap.size ⟨2, p, l, m, u1, gi, t, us, gr, b⟩) := Lib.hid (by rw [← hw1]; exact (EntO.new w ⟨2, p, l, m, u1, gi, t, us, gr, b⟩).below (B := w.heap.size + 1) ((Below.refl _ _).alloc (by simp) _) (by omega))
  have RO : Hid (CardO w1 (w.heap.size + 1) zeroC) := Lib.hid (by rw [← hw1]; exact CardO.newAt (w.alloc (.cells (Ent.cells ⟨2, p, l, m, u1, gi, t, us, gr, b⟩).toArray 43)) zeroC _ (by simp))
  have B0 : Hid (Below w.heap.size w w1) := Lib.hid (by rw [← hw1]; exact ((Below.refl _ _).alloc (Nat.le_refl _) _).alloc (by simp) _)
  have hs1 : w1.heap.size = w.heap.size + 2 := by rw [← hw1]; simp
  clear hw1
  have KC : Hid (∀ w', Below w1.heap.size w1 w' → w'.cell? ⟨w.heap.size, 1, none⟩ = some (.string p) ∧ w'.cell? ⟨w.heap.size, 3, none⟩ = some (.int .i64 m) ∧ w'.cell? ⟨w.heap.size, 4, none⟩ = some (.int .i64 u1) ∧ w'.cell? ⟨w.heap.size, 5, none⟩ = some (.int .i64 gi) ∧ w'.cell? ⟨w.heap.size, 6, none⟩ = some (.int .i64 t)) := Lib.hid (fun w' hb => by
    obtain ⟨d0, d1, d2, d3, d4, d5, d6, d7, d8, d9⟩ := (EO.out.below hb (by omega)).at.zero
    exact ⟨d1, d3, d4, d5, d6⟩)
  refine wp_region_cut 14 (by kernel_rfl) (fun w' => Below w1.heap.size w1 w') (fun x y => Below x.heap.size x y) (vBxG 5 47 w1.heap.size #[.int .i64 0, .int .i64 0, .int .i64 0, .int .i64 0, .int .i64 0, .int .i64 0, .string ⟨#[]⟩, .string ⟨#[]⟩] (fun d v => match d with | 6 => v = .int .i64 ino | 7 => v = .pointer (some ⟨w.heap.size, 3, none⟩) | 8 => v = .int .i64 m | 9 => v = .pointer (some ⟨w.heap.size, 4, none⟩) | 10 => v = .int .i64 u1 | 11 => v = .pointer (some ⟨w.heap.size, 5, none⟩) | 12 => v = .int .i64 gi | 13 => v = .pointer (some ⟨w.heap.size, 6, none⟩) | 14 => v = .int .i64 t | 15 => v = .pointer (some ⟨w.heap.size, 1, none⟩) | 16 => v = .string p | 17 => v = .string p | 18 => v = .agg #[.int .i64 ino, .int .i64 m, .int .i64 u1, .int .i64 gi, .int .i64 0, .int .i64 t, .string p, .string ⟨#[]⟩] | _ => True)) (by kernel_rfl) (by kernel_rfl) ((Below.refl _ _).drew) (vBxG_keep _ _ _ _ _) (by simp) ?hops ?hend
  case hops =>
    simp only [List.take_succ_cons, List.take_zero, List.forall_mem_cons]
    refine ⟨?o6, ?o7, ?o8, ?o9, ?o10, ?o11, ?o12, ?o13, ?o14, ?o15, ?o16, ?o17, ?o18, ?o5, fun _ h => by cases h⟩
    case o6 =>
      intro Q a w2 hC hV hI
      have e1 : a.eval (.tmp 1) = .int .i64 ino := (hI 1 (by simp [Op.operands]) (by kernel_rfl)).trans rfl
      have f1 : a.tmps.getD 1 undef = .int .i64 ino := e1
      have g1 : a.tmps[1]?.getD undef = .int .i64 ino := by rw [← Array.getD_eq_getD_getElem?]; exact e1
      refine op_val (.int .i64 ino) ?_ hC (Below.refl _ _) (by intro d hd; cases hd; exact rfl)
      (clear hV hI hC; go_simp <;> (first | rfl | simp | (rw [IntKind.wrap_i64]; omega)))
    case o7 =>
      intro Q a w2 hC hV hI
      have e2 : a.eval (.tmp 2) = .pointer (some ⟨w.heap.size, 0, none⟩) := (hI 2 (by simp [Op.operands]) (by kernel_rfl)).trans rfl
      have f2 : a.tmps.getD 2 undef = .pointer (some ⟨w.heap.size, 0, none⟩) := e2
      have g2 : a.tmps[2]?.getD undef = .pointer (some ⟨w.heap.size, 0, none⟩) := by rw [← Array.getD_eq_getD_getElem?]; exact e2
      refine op_val (.pointer (some ⟨w.heap.size, 3, none⟩)) ?_ hC (Below.refl _ _) (by intro d hd; cases hd; exact rfl)
      (clear hV hI hC; go_simp <;> (first | rfl | simp | (rw [IntKind.wrap_i64]; omega)))
    case o8 =>
      intro Q a w2 hC hV hI
      have e7 : a.eval (.tmp 7) = .pointer (some ⟨w.heap.size, 3, none⟩) := hV 7 (by simp [Op.operands]) (by kernel_rfl)
      have f7 : a.tmps.getD 7 undef = .pointer (some ⟨w.heap.size, 3, none⟩) := e7
      have g7 : a.tmps[7]?.getD undef = .pointer (some ⟨w.heap.size, 3, none⟩) := by rw [← Array.getD_eq_getD_getElem?]; exact e7
      have hK := KC.out w2 hC
      refine op_val (.int .i64 m) ?_ hC (Below.refl _ _) (by intro d hd; cases hd; exact rfl)
      (clear hV hI hC; go_simp <;> (first | rfl | simp | (rw [IntKind.wrap_i64]; omega)))
    case o9 =>
      intro Q a w2 hC hV hI
      have e2 : a.eval (.tmp 2) = .pointer (some ⟨w.heap.size, 0, none⟩) := (hI 2 (by simp [Op.operands]) (by kernel_rfl)).trans rfl
      have f2 : a.tmps.getD 2 undef = .pointer (some ⟨w.heap.size, 0, none⟩) := e2
      have g2 : a.tmps[2]?.getD undef = .pointer (some ⟨w.heap.size, 0, none⟩) := by rw [← Array.getD_eq_getD_getElem?]; exact e2
      refine op_val (.pointer (some ⟨w.heap.size, 4, none⟩)) ?_ hC (Below.refl _ _) (by intro d hd; cases hd; exact rfl)
      (clear hV hI hC; go_simp <;> (first | rfl | simp | (rw [IntKind.wrap_i64]; omega)))
    case o10 =>
      intro Q a w2 hC hV hI
      have e9 : a.eval (.tmp 9) = .pointer (some ⟨w.heap.size, 4, none⟩) := hV 9 (by simp [Op.operands]) (by kernel_rfl)
      have f9 : a.tmps.getD 9 undef = .pointer (some ⟨w.heap.size, 4, none⟩) := e9
      have g9 : a.tmps[9]?.getD undef = .pointer (some ⟨w.heap.size, 4, none⟩) := by rw [← Array.getD_eq_getD_getElem?]; exact e9
      have hK := KC.out w2 hC
      refine op_val (.int .i64 u1) ?_ hC (Below.refl _ _) (by intro d hd; cases hd; exact rfl)
      (clear hV hI hC; go_simp <;> (first | rfl | simp | (rw [IntKind.wrap_i64]; omega)))
    case o11 =>
      intro Q a w2 hC hV hI
      have e2 : a.eval (.tmp 2) = .pointer (some ⟨w.heap.size, 0, none⟩) := (hI 2 (by simp [Op.operands]) (by kernel_rfl)).trans rfl
      have f2 : a.tmps.getD 2 undef = .pointer (some ⟨w.heap.size, 0, none⟩) := e2
      have g2 : a.tmps[2]?.getD undef = .pointer (some ⟨w.heap.size, 0, none⟩) := by rw [← Array.getD_eq_getD_getElem?]; exact e2
      refine op_val (.pointer (some ⟨w.heap.size, 5, none⟩)) ?_ hC (Below.refl _ _) (by intro d hd; cases hd; exact rfl)
      (clear hV hI hC; go_simp <;> (first | rfl | simp | (rw [IntKind.wrap_i64]; omega)))
    case o12 =>
      intro Q a w2 hC hV hI
      have e11 : a.eval (.tmp 11) = .pointer (some ⟨w.heap.size, 5, none⟩) := hV 11 (by simp [Op.operands]) (by kernel_rfl)
      have f11 : a.tmps.getD 11 undef = .pointer (some ⟨w.heap.size, 5, none⟩) := e11
      have g11 : a.tmps[11]?.getD undef = .pointer (some ⟨w.heap.size, 5, none⟩) := by rw [← Array.getD_eq_getD_getElem?]; exact e11
      have hK := KC.out w2 hC
      refine op_val (.int .i64 gi) ?_ hC (Below.refl _ _) (by intro d hd; cases hd; exact rfl)
      (clear hV hI hC; go_simp <;> (first | rfl | simp | (rw [IntKind.wrap_i64]; omega)))
    case o13 =>
      intro Q a w2 hC hV hI
      have e2 : a.eval (.tmp 2) = .pointer (some ⟨w.heap.size, 0, none⟩) := (hI 2 (by simp [Op.operands]) (by kernel_rfl)).trans rfl
      have f2 : a.tmps.getD 2 undef = .pointer (some ⟨w.heap.size, 0, none⟩) := e2
      have g2 : a.tmps[2]?.getD undef = .pointer (some ⟨w.heap.size, 0, none⟩) := by rw [← Array.getD_eq_getD_getElem?]; exact e2
      refine op_val (.pointer (some ⟨w.heap.size, 6, none⟩)) ?_ hC (Below.refl _ _) (by intro d hd; cases hd; exact rfl)
      (clear hV hI hC; go_simp <;> (first | rfl | simp | (rw [IntKind.wrap_i64]; omega)))
    case o14 =>
      intro Q a w2 hC hV hI
      have e13 : a.eval (.tmp 13) = .pointer (some ⟨w.heap.size, 6, none⟩) := hV 13 (by simp [Op.operands]) (by kernel_rfl)
      have f13 : a.tmps.getD 13 undef = .pointer (some ⟨w.heap.size, 6, none⟩) := e13
      have g13 : a.tmps[13]?.getD undef = .pointer (some ⟨w.heap.size, 6, none⟩) := by rw [← Array.getD_eq_getD_getElem?]; exact e13
      have hK := KC.out w2 hC
      refine op_val (.int .i64 t) ?_ hC (Below.refl _ _) (by intro d hd; cases hd; exact rfl)
      (clear hV hI hC; go_simp <;> (first | rfl | simp | (rw [IntKind.wrap_i64]; omega)))
    case o15 =>
      intro Q a w2 hC hV hI
      have e2 : a.eval (.tmp 2) = .pointer (some ⟨w.heap.size, 0, none⟩) := (hI 2 (by simp [Op.operands]) (by kernel_rfl)).trans rfl
      have f2 : a.tmps.getD 2 undef = .pointer (some ⟨w.heap.size, 0, none⟩) := e2
      have g2 : a.tmps[2]?.getD undef = .pointer (some ⟨w.heap.size, 0, none⟩) := by rw [← Array.getD_eq_getD_getElem?]; exact e2
      refine op_val (.pointer (some ⟨w.heap.size, 1, none⟩)) ?_ hC (Below.refl _ _) (by intro d hd; cases hd; exact rfl)
      (clear hV hI hC; go_simp <;> (first | rfl | simp | (rw [IntKind.wrap_i64]; omega)))
    case o16 =>
      intro Q a w2 hC hV hI
      have e15 : a.eval (.tmp 15) = .pointer (some ⟨w.heap.size, 1, none⟩) := hV 15 (by simp [Op.operands]) (by kernel_rfl)
      have f15 : a.tmps.getD 15 undef = .pointer (some ⟨w.heap.size, 1, none⟩) := e15
      have g15 : a.tmps[15]?.getD undef = .pointer (some ⟨w.heap.size, 1, none⟩) := by rw [← Array.getD_eq_getD_getElem?]; exact e15
      have hK := KC.out w2 hC
      refine op_val (.string p) ?_ hC (Below.refl _ _) (by intro d hd; cases hd; exact rfl)
      (clear hV hI hC; go_simp <;> (first | rfl | simp | (rw [IntKind.wrap_i64]; omega)))
    case o17 =>
      intro Q a w2 hC hV hI
      have e16 : a.eval (.tmp 16) = .string p := hV 16 (by simp [Op.operands, Call.operands]) (by kernel_rfl)
      have f16 : a.tmps.getD 16 undef = .string p := e16
      have g16 : a.tmps[16]?.getD undef = .string p := by rw [← Array.getD_eq_getD_getElem?]; exact e16
      refine op_call (f := 50) (args := #[.string p]) (R := fun v y => v = .string p ∧ Below w2.heap.size w2 y) ?_ ((HC.out w2).mono ?_) ?_
      · (clear hV hI hC; go_simp <;> (first | rfl | simp | (rw [IntKind.wrap_i64]; omega)))
      · rintro e y ⟨rfl, hb⟩; exact ⟨_, rfl, rfl, hb⟩
      · rintro v y ⟨rfl, hb⟩; exact ⟨hC.trans (hb.mono hC.size), hb, by intro d hd; cases hd; exact rfl⟩
    case o18 =>
      intro Q a w2 hC hV hI
      have e6 : a.eval (.tmp 6) = .int .i64 ino := hV 6 (by simp [Op.operands]) (by kernel_rfl)
      have f6 : a.tmps.getD 6 undef = .int .i64 ino := e6
      have g6 : a.tmps[6]?.getD undef = .int .i64 ino := by rw [← Array.getD_eq_getD_getElem?]; exact e6
      have e8 : a.eval (.tmp 8) = .int .i64 m := hV 8 (by simp [Op.operands]) (by kernel_rfl)
      have f8 : a.tmps.getD 8 undef = .int .i64 m := e8
      have g8 : a.tmps[8]?.getD undef = .int .i64 m := by rw [← Array.getD_eq_getD_getElem?]; exact e8
      have e10 : a.eval (.tmp 10) = .int .i64 u1 := hV 10 (by simp [Op.operands]) (by kernel_rfl)
      have f10 : a.tmps.getD 10 undef = .int .i64 u1 := e10
      have g10 : a.tmps[10]?.getD undef = .int .i64 u1 := by rw [← Array.getD_eq_getD_getElem?]; exact e10
      have e12 : a.eval (.tmp 12) = .int .i64 gi := hV 12 (by simp [Op.operands]) (by kernel_rfl)
      have f12 : a.tmps.getD 12 undef = .int .i64 gi := e12
      have g12 : a.tmps[12]?.getD undef = .int .i64 gi := by rw [← Array.getD_eq_getD_getElem?]; exact e12
      have e14 : a.eval (.tmp 14) = .int .i64 t := hV 14 (by simp [Op.operands]) (by kernel_rfl)
      have f14 : a.tmps.getD 14 undef = .int .i64 t := e14
      have g14 : a.tmps[14]?.getD undef = .int .i64 t := by rw [← Array.getD_eq_getD_getElem?]; exact e14
      have e17 : a.eval (.tmp 17) = .string p := hV 17 (by simp [Op.operands]) (by kernel_rfl)
      have f17 : a.tmps.getD 17 undef = .string p := e17
      have g17 : a.tmps[17]?.getD undef = .string p := by rw [← Array.getD_eq_getD_getElem?]; exact e17
      refine op_val (.agg #[.int .i64 ino, .int .i64 m, .int .i64 u1, .int .i64 gi, .int .i64 0, .int .i64 t, .string p, .string ⟨#[]⟩]) ?_ hC (Below.refl _ _) (by intro d hd; cases hd; exact rfl)
      (clear hV hI hC; go_simp <;> (first | rfl | simp | (rw [IntKind.wrap_i64]; omega)))
    case o5 =>
      intro Q a w2 hC hV hI
      refine op_val (.pointer (some ⟨w2.heap.size, 0, none⟩)) (w' := w2.alloc (.cells #[.int .i64 0, .int .i64 0, .int .i64 0, .int .i64 0, .int .i64 0, .int .i64 0, .string ⟨#[]⟩, .string ⟨#[]⟩] 47)) ?_ (hC.alloc hC.size _) ((Below.refl _ _).alloc (Nat.le_refl _) _) ?_
      · (clear hV hI hC; go_simp <;> (first | rfl | simp | (rw [IntKind.wrap_i64]; omega)))
      · intro d hd; cases hd; exact ⟨w2.heap.size, rfl, hC.size, heap_lastG _ _⟩
  case hend =>
    intro f w2 hC hall
    simp only [List.take_succ_cons, List.take_zero, List.drop_succ_cons, List.drop_zero] at hall ⊢
    simp only [List.forall_mem_cons] at hall
    obtain ⟨h6, h7, h8, h9, h10, h11, h12, h13, h14, h15, h16, h17, h18, h5, _⟩ := hall
    replace h6 : f 6 = .int .i64 ino := h6 6 rfl
    replace h7 : f 7 = .pointer (some ⟨w.heap.size, 3, none⟩) := h7 7 rfl
    replace h8 : f 8 = .int .i64 m := h8 8 rfl
    replace h9 : f 9 = .pointer (some ⟨w.heap.size, 4, none⟩) := h9 9 rfl
    replace h10 : f 10 = .int .i64 u1 := h10 10 rfl
    replace h11 : f 11 = .pointer (some ⟨w.heap.size, 5, none⟩) := h11 11 rfl
    replace h12 : f 12 = .int .i64 gi := h12 12 rfl
    replace h13 : f 13 = .pointer (some ⟨w.heap.size, 6, none⟩) := h13 13 rfl
    replace h14 : f 14 = .int .i64 t := h14 14 rfl
    replace h15 : f 15 = .pointer (some ⟨w.heap.size, 1, none⟩) := h15 15 rfl
    replace h16 : f 16 = .string p := h16 16 rfl
    replace h17 : f 17 = .string p := h17 17 rfl
    replace h18 : f 18 = .agg #[.int .i64 ino, .int .i64 m, .int .i64 u1, .int .i64 gi, .int .i64 0, .int .i64 t, .string p, .string ⟨#[]⟩] := h18 18 rfl
    obtain ⟨G5, hG5, hGB5, hGO5⟩ : ∃ G, f 5 = .pointer (some ⟨G, 0, none⟩) ∧ w1.heap.size ≤ G ∧ w2.heap[G]? = some (.cells #[.int .i64 0, .int .i64 0, .int .i64 0, .int .i64 0, .int .i64 0, .int .i64 0, .string ⟨#[]⟩, .string ⟨#[]⟩] 47 (0, 0)) := h5 5 rfl
    simp only [putAll, Act.put, List.setIfInBounds_toArray, List.set_cons_succ, List.set_cons_zero, h6, h7, h8, h9, h10, h11, h12, h13, h14, h15, h16, h17, h18, hG5]
    clear h6 h7 h8 h9 h10 h11 h12 h13 h14 h15 h16 h17 h18 hG5 h5
    clear KC
    replace EO := Lib.hid (EO.out.below hC (by omega))
    replace RO := Lib.hid (RO.out.below hC (by omega))
    have hB2 := btE B0.out (hC.mono (Nat.le_refl _))
    have XO : CardO w2 G5 zeroC := hGO5
    have hne0 : ¬ w.heap.size = G5 := by omega
    have hne1 : ¬ w.heap.size + 1 = G5 := by omega
    have hlt5 : w.heap.size ≤ G5 := by omega
    obtain ⟨d0, d1, d2, d3, d4, d5, d6, d7⟩ := XO.at.zero
    have f0 := XO.fz 0
    have f1 := XO.fz 1
    have f2 := XO.fz 2
    have f3 := XO.fz 3
    have f4 := XO.fz 4
    have f5 := XO.fz 5
    have f6 := XO.fz 6
    have f7 := XO.fz 7
    have XP := XO.put ⟨ino, m, u1, gi, 0, t, p, ⟨#[]⟩⟩
    have EP : EntO (putOC w2 G5 ⟨ino, m, u1, gi, 0, t, p, ⟨#[]⟩⟩) w.heap.size ⟨2, p, l, m, u1, gi, t, us, gr, b⟩ := (putOC_other hne0).trans EO.out
    have RP : CardO (putOC w2 G5 ⟨ino, m, u1, gi, 0, t, p, ⟨#[]⟩⟩) (w.heap.size + 1) zeroC := (putOC_other hne1).trans RO.out
    have BP := below_putOC (g := G5) hB2 hlt5 ⟨ino, m, u1, gi, 0, t, p, ⟨#[]⟩⟩
    simp only [putOC] at XP EP RP BP
    go_upto_region 2 with fail
    obtain ⟨w3, hw3⟩ : ∃ x, x = ((((((((w2.setCell ⟨G5, 0, none⟩ (.int .i64 ino)).setCell ⟨G5, 1, none⟩ (.int .i64 m)).setCell ⟨G5, 2, none⟩ (.int .i64 u1)).setCell ⟨G5, 3, none⟩ (.int .i64 gi)).setCell ⟨G5, 4, none⟩ (.int .i64 0)).setCell ⟨G5, 5, none⟩ (.int .i64 t)).setCell ⟨G5, 6, none⟩ (.string p)).setCell ⟨G5, 7, none⟩ (.string ⟨#[]⟩)) := ⟨_, rfl⟩
    rw [← hw3] at XP EP RP BP ⊢
    have X := Lib.hid XP
    have R := Lib.hid RP
    have Bw := Lib.hid BP
    obtain ⟨e0, e1, e2, e3, e4, e5, e6, e7, e8, e9⟩ := EP.at.zero
    clear XP RP BP hw3 d0 d1 d2 d3 d4 d5 d6 d7 f0 f1 f2 f3 f4 f5 f6 f7 XO hGO5 hB2 EO RO
    obtain ⟨d0, d1, d2, d3, d4, d5, d6, d7⟩ := X.out.at.zero
    have f1 := X.out.fz 1
    have XP := X.out.set (e' := ⟨ino, m + 40960, u1, gi, 0, t, p, ⟨#[]⟩⟩) 1 (.int .i64 (m + 40960)) rfl
    have RP : CardO (w3.setCell ⟨G5, 1, none⟩ (.int .i64 (m + 40960))) (w.heap.size + 1) zeroC := R.out.other hne1
    have EP2 : EntO (w3.setCell ⟨G5, 1, none⟩ (.int .i64 (m + 40960))) w.heap.size ⟨2, p, l, m, u1, gi, t, us, gr, b⟩ := EP.other hne0
    have BP := Bw.out.setCell (p := ⟨G5, 1, none⟩) hlt5 (.int .i64 (m + 40960))
    go_wp2_with fail
    obtain ⟨w4, hw4⟩ : ∃ x, x = w3.setCell ⟨G5, 1, none⟩ (.int .i64 (m + 40960)) := ⟨_, rfl⟩
    rw [← hw4] at XP RP BP EP2 ⊢
    clear hw4 EP2 e0 e1 e2 e3 e4 e5 e6 e7 e8 e9 d0 d1 d2 d3 d4 d5 d6 d7 f1 EP X R Bw
    refine (HD.out _).mono ?_
    rintro e w5 ⟨rfl, hb⟩
    have X := Lib.hid (XP.below hb XP.lt)
    have R := Lib.hid (RP.below hb RP.lt)
    have Bw := Lib.hid (btE BP hb)
    clear hb XP RP BP
    obtain ⟨d0, d1, d2, d3, d4, d5, d6, d7⟩ := X.out.at.zero
    have f7 := X.out.fz 7
    have XP := X.out.set (e' := ⟨ino, m + 40960, u1, gi, 0, t, p, l⟩) 7 (.string l) rfl
    have RP : CardO (w5.setCell ⟨G5, 7, none⟩ (.string l)) (w.heap.size + 1) zeroC := R.out.other hne1
    have BP := Bw.out.setCell (p := ⟨G5, 7, none⟩) hlt5 (.string l)
    go_upto_region 10 with fail
    obtain ⟨w6, hw6⟩ : ∃ x, x = w5.setCell ⟨G5, 7, none⟩ (.string l) := ⟨_, rfl⟩
    rw [← hw6] at XP RP BP ⊢
    clear hw6 d0 d1 d2 d3 d4 d5 d6 d7 f7 X R Bw
    obtain ⟨x0, x1, x2, x3, x4, x5, x6, x7⟩ := XP.at.zero
    obtain ⟨d0, d1, d2, d3, d4, d5, d6, d7⟩ := RP.at.zero
    have f0 := RP.fz 0
    have f1 := RP.fz 1
    have f2 := RP.fz 2
    have f3 := RP.fz 3
    have f4 := RP.fz 4
    have f5 := RP.fz 5
    have f6 := RP.fz 6
    have f7 := RP.fz 7
    have R9 := RP.put ⟨ino, m + 40960, u1, gi, 0, t, p, l⟩
    have B9 := below_putOC (g := w.heap.size + 1) BP (by omega) ⟨ino, m + 40960, u1, gi, 0, t, p, l⟩
    simp only [putOC] at R9 B9
    go_wp2_with fail
    refine bodyPost_ret (res_OC1 rfl _ rfl R9) rfl ?_
    exact ⟨rfl, B9⟩
set_option maxHeartbeats 3200000 in
set_option maxRecDepth 8000 in
theorem cardOf_fil (k : Int) (p l : ByteArray) (m u1 gi t : Int) (us gr b : ByteArray) (ino : Int) (w : World) (hk1 : ¬ k = 1) (hk2 : ¬ k = 2) (hp : p.size ≤ 4194304) (hb : b.size ≤ 4194304) (hm0 : 0 ≤ m) (hm1 : m ≤ 4095) :
    Calls Try.prog 31 #[.agg #[.int .i64 k, .string p, .string l, .int .i64 m, .int .i64 u1, .int .i64 gi, .int .i64 t, .string us, .string gr, .string b], .int .i64 ino] w fun e w' => e = .returned (.agg #[.int .i64 ino, .int .i64 (m + 32768), .int .i64 u1, .int .i64 gi, .int .i64 0, .int .i64 t, .string p, .string b]) ∧ Below w.heap.size w w' := by
  have q1 : (k == 1) = false := by simpa using hk1
  have q2 : (k == 2) = false := by simpa using hk2
  have HC := Lib.hid (fun w => clone_any p w (by omega))
  have HD := Lib.hid (fun w => clone_any b w (by omega))
  go_enter Try.func31, Try.ntmps31
  go_upto_region 1 with fail
  generalize hw1 : World.alloc (World.alloc w _) _ = w1
  have EO : Hid (EntO w1 w.heap.size ⟨k, p, l, m, u1, gi, t, us, gr, b⟩) := Lib.hid (by rw [← hw1]; exact (EntO.new w ⟨k, p, l, m, u1, gi, t, us, gr, b⟩).below (B := w.heap.size + 1) ((Below.refl _ _).alloc (by simp) _) (by omega))
  have RO : Hid (CardO w1 (w.heap.size + 1) zeroC) := Lib.hid (by rw [← hw1]; exact CardO.newAt (w.alloc (.cells (Ent.cells ⟨k, p, l, m, u1, gi, t, us, gr, b⟩).toArray 43)) zeroC _ (by simp))
  have B0 : Hid (Below w.heap.size w w1) := Lib.hid (by rw [← hw1]; exact ((Below.refl _ _).alloc (Nat.le_refl _) _).alloc (by simp) _)
  have hs1 : w1.heap.size = w.heap.size + 2 := by rw [← hw1]; simp
  clear hw1
  have KC : Hid (∀ w', Below w1.heap.size w1 w' → w'.cell? ⟨w.heap.size, 1, none⟩ = some (.string p) ∧ w'.cell? ⟨w.heap.size, 3, none⟩ = some (.int .i64 m) ∧ w'.cell? ⟨w.heap.size, 4, none⟩ = some (.int .i64 u1) ∧ w'.cell? ⟨w.heap.size, 5, none⟩ = some (.int .i64 gi) ∧ w'.cell? ⟨w.heap.size, 6, none⟩ = some (.int .i64 t)) := Lib.hid (fun w' hb => by
    obtain ⟨d0, d1, d2, d3, d4, d5, d6, d7, d8, d9⟩ := (EO.out.below hb (by omega)).at.zero
    exact ⟨d1, d3, d4, d5, d6⟩)
  refine wp_region_cut 14 (by kernel_rfl) (fun w' => Below w1.heap.size w1 w') (fun x y => Below x.heap.size x y) (vBxG 5 47 w1.heap.size #[.int .i64 0, .int .i64 0, .int .i64 0, .int .i64 0, .int .i64 0, .int .i64 0, .string ⟨#[]⟩, .string ⟨#[]⟩] (fun d v => match d with | 6 => v = .int .i64 ino | 7 => v = .pointer (some ⟨w.heap.size, 3, none⟩) | 8 => v = .int .i64 m | 9 => v = .pointer (some ⟨w.heap.size, 4, none⟩) | 10 => v = .int .i64 u1 | 11 => v = .pointer (some ⟨w.heap.size, 5, none⟩) | 12 => v = .int .i64 gi | 13 => v = .pointer (some ⟨w.heap.size, 6, none⟩) | 14 => v = .int .i64 t | 15 => v = .pointer (some ⟨w.heap.size, 1, none⟩) | 16 => v = .string p | 17 => v = .string p | 18 => v = .agg #[.int .i64 ino, .int .i64 m, .int .i64 u1, .int .i64 gi, .int .i64 0, .int .i64 t, .string p, .string ⟨#[]⟩] | _ => True)) (by kernel_rfl) (by kernel_rfl) ((Below.refl _ _).drew) (vBxG_keep _ _ _ _ _) (by simp) ?hops ?hend
  case hops =>
    simp only [List.take_succ_cons, List.take_zero, List.forall_mem_cons]
    refine ⟨?o6, ?o7, ?o8, ?o9, ?o10, ?o11, ?o12, ?o13, ?o14, ?o15, ?o16, ?o17, ?o18, ?o5, fun _ h => by cases h⟩
    case o6 =>
      intro Q a w2 hC hV hI
      have e1 : a.eval (.tmp 1) = .int .i64 ino := (hI 1 (by simp [Op.operands]) (by kernel_rfl)).trans rfl
      have f1 : a.tmps.getD 1 undef = .int .i64 ino := e1
      have g1 : a.tmps[1]?.getD undef = .int .i64 ino := by rw [← Array.getD_eq_getD_getElem?]; exact e1
      refine op_val (.int .i64 ino) ?_ hC (Below.refl _ _) (by intro d hd; cases hd; exact rfl)
      (clear hV hI hC; go_simp <;> (first | rfl | simp | (rw [IntKind.wrap_i64]; omega)))
    case o7 =>
      intro Q a w2 hC hV hI
      have e2 : a.eval (.tmp 2) = .pointer (some ⟨w.heap.size, 0, none⟩) := (hI 2 (by simp [Op.operands]) (by kernel_rfl)).trans rfl
      have f2 : a.tmps.getD 2 undef = .pointer (some ⟨w.heap.size, 0, none⟩) := e2
      have g2 : a.tmps[2]?.getD undef = .pointer (some ⟨w.heap.size, 0, none⟩) := by rw [← Array.getD_eq_getD_getElem?]; exact e2
      refine op_val (.pointer (some ⟨w.heap.size, 3, none⟩)) ?_ hC (Below.refl _ _) (by intro d hd; cases hd; exact rfl)
      (clear hV hI hC; go_simp <;> (first | rfl | simp | (rw [IntKind.wrap_i64]; omega)))
    case o8 =>
      intro Q a w2 hC hV hI
      have e7 : a.eval (.tmp 7) = .pointer (some ⟨w.heap.size, 3, none⟩) := hV 7 (by simp [Op.operands]) (by kernel_rfl)
      have f7 : a.tmps.getD 7 undef = .pointer (some ⟨w.heap.size, 3, none⟩) := e7
      have g7 : a.tmps[7]?.getD undef = .pointer (some ⟨w.heap.size, 3, none⟩) := by rw [← Array.getD_eq_getD_getElem?]; exact e7
      have hK := KC.out w2 hC
      refine op_val (.int .i64 m) ?_ hC (Below.refl _ _) (by intro d hd; cases hd; exact rfl)
      (clear hV hI hC; go_simp <;> (first | rfl | simp | (rw [IntKind.wrap_i64]; omega)))
    case o9 =>
      intro Q a w2 hC hV hI
      have e2 : a.eval (.tmp 2) = .pointer (some ⟨w.heap.size, 0, none⟩) := (hI 2 (by simp [Op.operands]) (by kernel_rfl)).trans rfl
      have f2 : a.tmps.getD 2 undef = .pointer (some ⟨w.heap.size, 0, none⟩) := e2
      have g2 : a.tmps[2]?.getD undef = .pointer (some ⟨w.heap.size, 0, none⟩) := by rw [← Array.getD_eq_getD_getElem?]; exact e2
      refine op_val (.pointer (some ⟨w.heap.size, 4, none⟩)) ?_ hC (Below.refl _ _) (by intro d hd; cases hd; exact rfl)
      (clear hV hI hC; go_simp <;> (first | rfl | simp | (rw [IntKind.wrap_i64]; omega)))
    case o10 =>
      intro Q a w2 hC hV hI
      have e9 : a.eval (.tmp 9) = .pointer (some ⟨w.heap.size, 4, none⟩) := hV 9 (by simp [Op.operands]) (by kernel_rfl)
      have f9 : a.tmps.getD 9 undef = .pointer (some ⟨w.heap.size, 4, none⟩) := e9
      have g9 : a.tmps[9]?.getD undef = .pointer (some ⟨w.heap.size, 4, none⟩) := by rw [← Array.getD_eq_getD_getElem?]; exact e9
      have hK := KC.out w2 hC
      refine op_val (.int .i64 u1) ?_ hC (Below.refl _ _) (by intro d hd; cases hd; exact rfl)
      (clear hV hI hC; go_simp <;> (first | rfl | simp | (rw [IntKind.wrap_i64]; omega)))
    case o11 =>
      intro Q a w2 hC hV hI
      have e2 : a.eval (.tmp 2) = .pointer (some ⟨w.heap.size, 0, none⟩) := (hI 2 (by simp [Op.operands]) (by kernel_rfl)).trans rfl
      have f2 : a.tmps.getD 2 undef = .pointer (some ⟨w.heap.size, 0, none⟩) := e2
      have g2 : a.tmps[2]?.getD undef = .pointer (some ⟨w.heap.size, 0, none⟩) := by rw [← Array.getD_eq_getD_getElem?]; exact e2
      refine op_val (.pointer (some ⟨w.heap.size, 5, none⟩)) ?_ hC (Below.refl _ _) (by intro d hd; cases hd; exact rfl)
      (clear hV hI hC; go_simp <;> (first | rfl | simp | (rw [IntKind.wrap_i64]; omega)))
    case o12 =>
      intro Q a w2 hC hV hI
      have e11 : a.eval (.tmp 11) = .pointer (some ⟨w.heap.size, 5, none⟩) := hV 11 (by simp [Op.operands]) (by kernel_rfl)
      have f11 : a.tmps.getD 11 undef = .pointer (some ⟨w.heap.size, 5, none⟩) := e11
      have g11 : a.tmps[11]?.getD undef = .pointer (some ⟨w.heap.size, 5, none⟩) := by rw [← Array.getD_eq_getD_getElem?]; exact e11
      have hK := KC.out w2 hC
      refine op_val (.int .i64 gi) ?_ hC (Below.refl _ _) (by intro d hd; cases hd; exact rfl)
      (clear hV hI hC; go_simp <;> (first | rfl | simp | (rw [IntKind.wrap_i64]; omega)))
    case o13 =>
      intro Q a w2 hC hV hI
      have e2 : a.eval (.tmp 2) = .pointer (some ⟨w.heap.size, 0, none⟩) := (hI 2 (by simp [Op.operands]) (by kernel_rfl)).trans rfl
      have f2 : a.tmps.getD 2 undef = .pointer (some ⟨w.heap.size, 0, none⟩) := e2
      have g2 : a.tmps[2]?.getD undef = .pointer (some ⟨w.heap.size, 0, none⟩) := by rw [← Array.getD_eq_getD_getElem?]; exact e2
      refine op_val (.pointer (some ⟨w.heap.size, 6, none⟩)) ?_ hC (Below.refl _ _) (by intro d hd; cases hd; exact rfl)
      (clear hV hI hC; go_simp <;> (first | rfl | simp | (rw [IntKind.wrap_i64]; omega)))
    case o14 =>
      intro Q a w2 hC hV hI
      have e13 : a.eval (.tmp 13) = .pointer (some ⟨w.heap.size, 6, none⟩) := hV 13 (by simp [Op.operands]) (by kernel_rfl)
      have f13 : a.tmps.getD 13 undef = .pointer (some ⟨w.heap.size, 6, none⟩) := e13
      have g13 : a.tmps[13]?.getD undef = .pointer (some ⟨w.heap.size, 6, none⟩) := by rw [← Array.getD_eq_getD_getElem?]; exact e13
      have hK := KC.out w2 hC
      refine op_val (.int .i64 t) ?_ hC (Below.refl _ _) (by intro d hd; cases hd; exact rfl)
      (clear hV hI hC; go_simp <;> (first | rfl | simp | (rw [IntKind.wrap_i64]; omega)))
    case o15 =>
      intro Q a w2 hC hV hI
      have e2 : a.eval (.tmp 2) = .pointer (some ⟨w.heap.size, 0, none⟩) := (hI 2 (by simp [Op.operands]) (by kernel_rfl)).trans rfl
      have f2 : a.tmps.getD 2 undef = .pointer (some ⟨w.heap.size, 0, none⟩) := e2
      have g2 : a.tmps[2]?.getD undef = .pointer (some ⟨w.heap.size, 0, none⟩) := by rw [← Array.getD_eq_getD_getElem?]; exact e2
      refine op_val (.pointer (some ⟨w.heap.size, 1, none⟩)) ?_ hC (Below.refl _ _) (by intro d hd; cases hd; exact rfl)
      (clear hV hI hC; go_simp <;> (first | rfl | simp | (rw [IntKind.wrap_i64]; omega)))
    case o16 =>
      intro Q a w2 hC hV hI
      have e15 : a.eval (.tmp 15) = .pointer (some ⟨w.heap.size, 1, none⟩) := hV 15 (by simp [Op.operands]) (by kernel_rfl)
      have f15 : a.tmps.getD 15 undef = .pointer (some ⟨w.heap.size, 1, none⟩) := e15
      have g15 : a.tmps[15]?.getD undef = .pointer (some ⟨w.heap.size, 1, none⟩) := by rw [← Array.getD_eq_getD_getElem?]; exact e15
      have hK := KC.out w2 hC
      refine op_val (.string p) ?_ hC (Below.refl _ _) (by intro d hd; cases hd; exact rfl)
      (clear hV hI hC; go_simp <;> (first | rfl | simp | (rw [IntKind.wrap_i64]; omega)))
    case o17 =>
      intro Q a w2 hC hV hI
      have e16 : a.eval (.tmp 16) = .string p := hV 16 (by simp [Op.operands, Call.operands]) (by kernel_rfl)
      have f16 : a.tmps.getD 16 undef = .string p := e16
      have g16 : a.tmps[16]?.getD undef = .string p := by rw [← Array.getD_eq_getD_getElem?]; exact e16
      refine op_call (f := 50) (args := #[.string p]) (R := fun v y => v = .string p ∧ Below w2.heap.size w2 y) ?_ ((HC.out w2).mono ?_) ?_
      · (clear hV hI hC; go_simp <;> (first | rfl | simp | (rw [IntKind.wrap_i64]; omega)))
      · rintro e y ⟨rfl, hb⟩; exact ⟨_, rfl, rfl, hb⟩
      · rintro v y ⟨rfl, hb⟩; exact ⟨hC.trans (hb.mono hC.size), hb, by intro d hd; cases hd; exact rfl⟩
    case o18 =>
      intro Q a w2 hC hV hI
      have e6 : a.eval (.tmp 6) = .int .i64 ino := hV 6 (by simp [Op.operands]) (by kernel_rfl)
      have f6 : a.tmps.getD 6 undef = .int .i64 ino := e6
      have g6 : a.tmps[6]?.getD undef = .int .i64 ino := by rw [← Array.getD_eq_getD_getElem?]; exact e6
      have e8 : a.eval (.tmp 8) = .int .i64 m := hV 8 (by simp [Op.operands]) (by kernel_rfl)
      have f8 : a.tmps.getD 8 undef = .int .i64 m := e8
      have g8 : a.tmps[8]?.getD undef = .int .i64 m := by rw [← Array.getD_eq_getD_getElem?]; exact e8
      have e10 : a.eval (.tmp 10) = .int .i64 u1 := hV 10 (by simp [Op.operands]) (by kernel_rfl)
      have f10 : a.tmps.getD 10 undef = .int .i64 u1 := e10
      have g10 : a.tmps[10]?.getD undef = .int .i64 u1 := by rw [← Array.getD_eq_getD_getElem?]; exact e10
      have e12 : a.eval (.tmp 12) = .int .i64 gi := hV 12 (by simp [Op.operands]) (by kernel_rfl)
      have f12 : a.tmps.getD 12 undef = .int .i64 gi := e12
      have g12 : a.tmps[12]?.getD undef = .int .i64 gi := by rw [← Array.getD_eq_getD_getElem?]; exact e12
      have e14 : a.eval (.tmp 14) = .int .i64 t := hV 14 (by simp [Op.operands]) (by kernel_rfl)
      have f14 : a.tmps.getD 14 undef = .int .i64 t := e14
      have g14 : a.tmps[14]?.getD undef = .int .i64 t := by rw [← Array.getD_eq_getD_getElem?]; exact e14
      have e17 : a.eval (.tmp 17) = .string p := hV 17 (by simp [Op.operands]) (by kernel_rfl)
      have f17 : a.tmps.getD 17 undef = .string p := e17
      have g17 : a.tmps[17]?.getD undef = .string p := by rw [← Array.getD_eq_getD_getElem?]; exact e17
      refine op_val (.agg #[.int .i64 ino, .int .i64 m, .int .i64 u1, .int .i64 gi, .int .i64 0, .int .i64 t, .string p, .string ⟨#[]⟩]) ?_ hC (Below.refl _ _) (by intro d hd; cases hd; exact rfl)
      (clear hV hI hC; go_simp <;> (first | rfl | simp | (rw [IntKind.wrap_i64]; omega)))
    case o5 =>
      intro Q a w2 hC hV hI
      refine op_val (.pointer (some ⟨w2.heap.size, 0, none⟩)) (w' := w2.alloc (.cells #[.int .i64 0, .int .i64 0, .int .i64 0, .int .i64 0, .int .i64 0, .int .i64 0, .string ⟨#[]⟩, .string ⟨#[]⟩] 47)) ?_ (hC.alloc hC.size _) ((Below.refl _ _).alloc (Nat.le_refl _) _) ?_
      · (clear hV hI hC; go_simp <;> (first | rfl | simp | (rw [IntKind.wrap_i64]; omega)))
      · intro d hd; cases hd; exact ⟨w2.heap.size, rfl, hC.size, heap_lastG _ _⟩
  case hend =>
    intro f w2 hC hall
    simp only [List.take_succ_cons, List.take_zero, List.drop_succ_cons, List.drop_zero] at hall ⊢
    simp only [List.forall_mem_cons] at hall
    obtain ⟨h6, h7, h8, h9, h10, h11, h12, h13, h14, h15, h16, h17, h18, h5, _⟩ := hall
    replace h6 : f 6 = .int .i64 ino := h6 6 rfl
    replace h7 : f 7 = .pointer (some ⟨w.heap.size, 3, none⟩) := h7 7 rfl
    replace h8 : f 8 = .int .i64 m := h8 8 rfl
    replace h9 : f 9 = .pointer (some ⟨w.heap.size, 4, none⟩) := h9 9 rfl
    replace h10 : f 10 = .int .i64 u1 := h10 10 rfl
    replace h11 : f 11 = .pointer (some ⟨w.heap.size, 5, none⟩) := h11 11 rfl
    replace h12 : f 12 = .int .i64 gi := h12 12 rfl
    replace h13 : f 13 = .pointer (some ⟨w.heap.size, 6, none⟩) := h13 13 rfl
    replace h14 : f 14 = .int .i64 t := h14 14 rfl
    replace h15 : f 15 = .pointer (some ⟨w.heap.size, 1, none⟩) := h15 15 rfl
    replace h16 : f 16 = .string p := h16 16 rfl
    replace h17 : f 17 = .string p := h17 17 rfl
    replace h18 : f 18 = .agg #[.int .i64 ino, .int .i64 m, .int .i64 u1, .int .i64 gi, .int .i64 0, .int .i64 t, .string p, .string ⟨#[]⟩] := h18 18 rfl
    obtain ⟨G5, hG5, hGB5, hGO5⟩ : ∃ G, f 5 = .pointer (some ⟨G, 0, none⟩) ∧ w1.heap.size ≤ G ∧ w2.heap[G]? = some (.cells #[.int .i64 0, .int .i64 0, .int .i64 0, .int .i64 0, .int .i64 0, .int .i64 0, .string ⟨#[]⟩, .string ⟨#[]⟩] 47 (0, 0)) := h5 5 rfl
    simp only [putAll, Act.put, List.setIfInBounds_toArray, List.set_cons_succ, List.set_cons_zero, h6, h7, h8, h9, h10, h11, h12, h13, h14, h15, h16, h17, h18, hG5]
    clear h6 h7 h8 h9 h10 h11 h12 h13 h14 h15 h16 h17 h18 hG5 h5
    clear KC
    replace EO := Lib.hid (EO.out.below hC (by omega))
    replace RO := Lib.hid (RO.out.below hC (by omega))
    have hB2 := btE B0.out (hC.mono (Nat.le_refl _))
    have XO : CardO w2 G5 zeroC := hGO5
    have hne0 : ¬ w.heap.size = G5 := by omega
    have hne1 : ¬ w.heap.size + 1 = G5 := by omega
    have hlt5 : w.heap.size ≤ G5 := by omega
    obtain ⟨d0, d1, d2, d3, d4, d5, d6, d7⟩ := XO.at.zero
    have f0 := XO.fz 0
    have f1 := XO.fz 1
    have f2 := XO.fz 2
    have f3 := XO.fz 3
    have f4 := XO.fz 4
    have f5 := XO.fz 5
    have f6 := XO.fz 6
    have f7 := XO.fz 7
    have XP := XO.put ⟨ino, m, u1, gi, 0, t, p, ⟨#[]⟩⟩
    have EP : EntO (putOC w2 G5 ⟨ino, m, u1, gi, 0, t, p, ⟨#[]⟩⟩) w.heap.size ⟨k, p, l, m, u1, gi, t, us, gr, b⟩ := (putOC_other hne0).trans EO.out
    have RP : CardO (putOC w2 G5 ⟨ino, m, u1, gi, 0, t, p, ⟨#[]⟩⟩) (w.heap.size + 1) zeroC := (putOC_other hne1).trans RO.out
    have BP := below_putOC (g := G5) hB2 hlt5 ⟨ino, m, u1, gi, 0, t, p, ⟨#[]⟩⟩
    simp only [putOC] at XP EP RP BP
    go_upto_region 2 with fail
    obtain ⟨w3, hw3⟩ : ∃ x, x = ((((((((w2.setCell ⟨G5, 0, none⟩ (.int .i64 ino)).setCell ⟨G5, 1, none⟩ (.int .i64 m)).setCell ⟨G5, 2, none⟩ (.int .i64 u1)).setCell ⟨G5, 3, none⟩ (.int .i64 gi)).setCell ⟨G5, 4, none⟩ (.int .i64 0)).setCell ⟨G5, 5, none⟩ (.int .i64 t)).setCell ⟨G5, 6, none⟩ (.string p)).setCell ⟨G5, 7, none⟩ (.string ⟨#[]⟩)) := ⟨_, rfl⟩
    rw [← hw3] at XP EP RP BP ⊢
    have X := Lib.hid XP
    have R := Lib.hid RP
    have Bw := Lib.hid BP
    obtain ⟨e0, e1, e2, e3, e4, e5, e6, e7, e8, e9⟩ := EP.at.zero
    clear XP RP BP hw3 d0 d1 d2 d3 d4 d5 d6 d7 f0 f1 f2 f3 f4 f5 f6 f7 XO hGO5 hB2 EO RO
    obtain ⟨d0, d1, d2, d3, d4, d5, d6, d7⟩ := X.out.at.zero
    have f1 := X.out.fz 1
    have XP := X.out.set (e' := ⟨ino, m + 32768, u1, gi, 0, t, p, ⟨#[]⟩⟩) 1 (.int .i64 (m + 32768)) rfl
    have RP : CardO (w3.setCell ⟨G5, 1, none⟩ (.int .i64 (m + 32768))) (w.heap.size + 1) zeroC := R.out.other hne1
    have EP2 : EntO (w3.setCell ⟨G5, 1, none⟩ (.int .i64 (m + 32768))) w.heap.size ⟨k, p, l, m, u1, gi, t, us, gr, b⟩ := EP.other hne0
    have BP := Bw.out.setCell (p := ⟨G5, 1, none⟩) hlt5 (.int .i64 (m + 32768))
    go_wp2_with fail
    obtain ⟨w4, hw4⟩ : ∃ x, x = w3.setCell ⟨G5, 1, none⟩ (.int .i64 (m + 32768)) := ⟨_, rfl⟩
    rw [← hw4] at XP RP BP EP2 ⊢
    clear hw4 EP2 e0 e1 e2 e3 e4 e5 e6 e7 e8 e9 d0 d1 d2 d3 d4 d5 d6 d7 f1 EP X R Bw
    refine (HD.out _).mono ?_
    rintro e w5 ⟨rfl, hb⟩
    have X := Lib.hid (XP.below hb XP.lt)
    have R := Lib.hid (RP.below hb RP.lt)
    have Bw := Lib.hid (btE BP hb)
    clear hb XP RP BP
    obtain ⟨d0, d1, d2, d3, d4, d5, d6, d7⟩ := X.out.at.zero
    have f7 := X.out.fz 7
    have XP := X.out.set (e' := ⟨ino, m + 32768, u1, gi, 0, t, p, b⟩) 7 (.string b) rfl
    have RP : CardO (w5.setCell ⟨G5, 7, none⟩ (.string b)) (w.heap.size + 1) zeroC := R.out.other hne1
    have BP := Bw.out.setCell (p := ⟨G5, 7, none⟩) hlt5 (.string b)
    go_upto_region 10 with fail
    obtain ⟨w6, hw6⟩ : ∃ x, x = w5.setCell ⟨G5, 7, none⟩ (.string b) := ⟨_, rfl⟩
    rw [← hw6] at XP RP BP ⊢
    clear hw6 d0 d1 d2 d3 d4 d5 d6 d7 f7 X R Bw
    obtain ⟨x0, x1, x2, x3, x4, x5, x6, x7⟩ := XP.at.zero
    obtain ⟨d0, d1, d2, d3, d4, d5, d6, d7⟩ := RP.at.zero
    have f0 := RP.fz 0
    have f1 := RP.fz 1
    have f2 := RP.fz 2
    have f3 := RP.fz 3
    have f4 := RP.fz 4
    have f5 := RP.fz 5
    have f6 := RP.fz 6
    have f7 := RP.fz 7
    have R9 := RP.put ⟨ino, m + 32768, u1, gi, 0, t, p, b⟩
    have B9 := below_putOC (g := w.heap.size + 1) BP (by omega) ⟨ino, m + 32768, u1, gi, 0, t, p, b⟩
    simp only [putOC] at R9 B9
    go_wp2_with fail
    refine bodyPost_ret (res_OC1 rfl _ rfl R9) rfl ?_
    exact ⟨rfl, B9⟩
/-- The card of an entry but for its count. -/
def cardOfv (ino : Int) (e : Ent) : Card := ⟨ino, e.mode + modev e.kind, e.uid, e.gid, 0, e.time, e.path, if e.kind = 1 then ⟨#[]⟩ else datav e⟩
theorem cardOf_impl (e : Ent) (ino : Int) (w : World) (hz : esz e ≤ 4194304) (hm0 : 0 ≤ e.mode) (hm1 : e.mode ≤ 4095) :
    Calls Try.prog 31 #[.agg e.cells.toArray, .int .i64 ino] w fun r w' => r = .returned (.agg (cardOfv ino e).cells.toArray) ∧ Below w.heap.size w w' := by
  obtain ⟨k, p, l, m, u, g, t, us, gr, b⟩ := e
  obtain ⟨hp, hl, _, _, hb⟩ := small_parts hz
  by_cases h1 : k = 1
  · subst h1
    exact cardOf_dir p l m u g t us gr b ino w hp hm0 hm1
  · by_cases h2 : k = 2
    · subst h2
      exact cardOf_sym p l m u g t us gr b ino w hp hl hm0 hm1
    · have := cardOf_fil k p l m u g t us gr b ino w h1 h2 hp hb hm0 hm1
      simpa [Ent.cells, Card.cells, cardOfv, modev, datav, h1, h2] using this
end Go.Proofs.Ytpimeekcnndhiaa
