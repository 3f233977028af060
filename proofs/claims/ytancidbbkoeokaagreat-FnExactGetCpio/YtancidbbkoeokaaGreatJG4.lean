/- Texts joined: CardOf, KindMath, ListOkI, CardsI, WrK, WrBin, EntriesI, EntNil, Lead, Value, GetOH, PutBase, FmtBits, FmtInt, Field, PutOH, CardText, GetCdM, CardTextI, CardDig, EqZ, HdOf, CatchR, ReadM, ReadBin, PutCpioI, GBin, GetCpioI, ClosedS. -/
import Derived.Test.YtancidbbkoeokaaGreatEntO
import Derived.Test.YtancidbbkoeokaaGreatRegSl
import Derived.Deep.DeepCutAuto
import Derived.OwnWalk
import Derived.Test.YtancidbbkoeokaaGreatMapS
import Derived.Test.YtancidbbkoeokaaGreatEntAt
import Derived.Test.YtancidbbkoeokaaGreatMapI
import Derived.Test.YtancidbbkoeokaaGreatOwn
import Derived.BigRegion
import Derived.Laws.MakeOwn
import Derived.Test.YtancidbbkoeokaaGreatNum
import Derived.WalkMore
import Derived.Test.YtancidbbkoeokaaGreatIn
import Derived.Test.YtancidbbkoeokaaGreatDigSl
import Derived.Test.YtancidbbkoeokaaGreatShelf
import Derived.Lib.Repeat
import Derived.Test.YtancidbbkoeokaaGreatFmtArr
import Derived.Test.YtancidbbkoeokaaGreatDecText
import Derived.Test.YtancidbbkoeokaaGreatDemand
import Derived.Laws.StructEq
import Derived.Defers
import Derived.Recover
import Derived.Deep.WholeRow
import Derived.Test.YtancidbbkoeokaaGreatJG3
/- Contracts of impl.inode and impl.cardOf. -/
namespace Go.Proofs.YtancidbbkoeokaaGreat
open Go.ChangeShapes Go.WideShapes Go.ChangeAt Go.RowKit Go.Deep

theorem find_bds2 (L : List Ent) (p : ByteArray) : -1 ≤ findv L p ∧ findv L p ≤ L.length := by
  rcases find_cases L p with h | ⟨a, e, h, he, _⟩
  · omega
  · have := (List.getElem?_eq_some_iff.1 he).1
    omega
set_option maxHeartbeats 1600000 in
theorem ino_impl (L : List Ent) (i : Nat) (e : Ent) (n g cap : Nat) (w : World) (he : L[i]? = some e) (hn : n = L.length) (hm : n ≤ 4194304) (hg : g < w.heap.size) (h1 : RowE w g L) :
    Calls Tryz.prog 70 #[.slice (some ⟨g, 0, none⟩) n cap, .int .i64 i] w fun e' w' => e' = .returned (.int .i64 (inov L i e)) ∧ Below w.heap.size w w' := by
  have hlt : i < n := by rw [hn]; exact (List.getElem?_eq_some_iff.1 he).1
  have hlt2 : (i : Int) < (n : Int) := by omega
  have H1 := Lib.hid (find_impl L e.link n g cap w hn hm hg h1)
  have HB := find_bds2 L e.link
  have HI : Hid (inov L i e = if e.kind = 3 then findv L e.link + 1 else (i : Int) + 1) := Lib.hid rfl
  obtain ⟨c0, c1, c2, c3, c4, c5, c6, c7, c8, c9⟩ := h1.ten he
  generalize inov L i e = r at HI
  generalize findv L e.link = f at H1 HI HB
  clear h1 he c1 c3 c4 c5 c6 c7 c8 c9
  obtain ⟨k, p, l, m, u, g0, t, us, gr, b⟩ := e
  by_cases hk : k = 3
  · subst hk
    have HF : Hid (r = f + 1) := Lib.hid (by rw [HI.out, if_pos rfl])
    have hb0 : f ≤ 4194304 := by omega
    have hb1 : -1 ≤ f := by omega
    clear HI HB hn
    go_enter Tryz.func70, Tryz.ntmps70
    go_wp2_with fail
    refine H1.out.mono ?_
    rintro e w1 ⟨rfl, hb⟩
    have B := Lib.hid hb
    clear hb
    go_wp2_with fail
    go_ret
    exact ⟨by rw [HF.out]; go_num, B.out⟩
  · have hk2 : (k == 3) = false := by simpa using hk
    have HF : Hid (r = (i : Int) + 1) := Lib.hid (by rw [HI.out, if_neg hk])
    clear HI HB hk hn
    go_enter Tryz.func70, Tryz.ntmps70
    go_wp2_with fail
    go_ret
    exact ⟨by rw [HF.out]; go_num, Below.refl _ _⟩
set_option maxHeartbeats 3200000 in
set_option maxRecDepth 8000 in
theorem cardOf_dir (p l : ByteArray) (m u1 gi t : Int) (us gr b : ByteArray) (ino : Int) (w : World) (hp : p.size ≤ 4194304) (hm0 : 0 ≤ m) (hm1 : m ≤ 4095) :
    Calls Tryz.prog 69 #[.agg #[.int .i64 1, .string p, .string l, .int .i64 m, .int .i64 u1, .int .i64 gi, .int .i64 t, .string us, .string gr, .string b], .int .i64 ino] w fun e w' => e = .returned (.agg #[.int .i64 ino, .int .i64 (m + 16384), .int .i64 u1, .int .i64 gi, .int .i64 0, .int .i64 t, .string p, .string ⟨#[]⟩]) ∧ Below w.heap.size w w' := by
  have HC := Lib.hid (fun w => clone_any p w (by omega))
  go_enter Tryz.func69, Tryz.ntmps69
  go_upto_region 1 with fail
  generalize hw1 : World.alloc (World.alloc w _) _ = w1
  have EO : Hid (EntO w1 w.heap.size ⟨1, p, l, m, u1, gi, t, us, gr, b⟩) := Lib.hid (by rw [← hw1]; exact (EntO.new w ⟨1, p, l, m, u1, gi, t, us, gr, b⟩).below (B := w.heap.size + 1) ((Below.refl _ _).alloc (by simp) _) (by omega))
  have RO : Hid (CardO w1 (w.heap.size + 1) zeroC) := Lib.hid (by rw [← hw1]; exact CardO.newAt (w.alloc (.cells (Ent.cells ⟨1, p, l, m, u1, gi, t, us, gr, b⟩).toArray 41)) zeroC _ (by simp))
  have B0 : Hid (Below w.heap.size w w1) := Lib.hid (by rw [← hw1]; exact ((Below.refl _ _).alloc (Nat.le_refl _) _).alloc (by simp) _)
  have hs1 : w1.heap.size = w.heap.size + 2 := by rw [← hw1]; simp
  clear hw1
  have KC : Hid (∀ w', Below w1.heap.size w1 w' → w'.cell? ⟨w.heap.size, 1, none⟩ = some (.string p) ∧ w'.cell? ⟨w.heap.size, 3, none⟩ = some (.int .i64 m) ∧ w'.cell? ⟨w.heap.size, 4, none⟩ = some (.int .i64 u1) ∧ w'.cell? ⟨w.heap.size, 5, none⟩ = some (.int .i64 gi) ∧ w'.cell? ⟨w.heap.size, 6, none⟩ = some (.int .i64 t)) := Lib.hid (fun w' hb => by
    obtain ⟨d0, d1, d2, d3, d4, d5, d6, d7, d8, d9⟩ := (EO.out.below hb (by omega)).at.zero
    exact ⟨d1, d3, d4, d5, d6⟩)
  refine wp_region_cut 14 (by kernel_rfl) (fun w' => Below w1.heap.size w1 w') (fun x y => Below x.heap.size x y) (vBxG 5 44 w1.heap.size #[.int .i64 0, .int .i64 0, .int .i64 0, .int .i64 0, .int .i64 0, .int .i64 0, .string ⟨#[]⟩, .string ⟨#[]⟩] (fun d v => match d with | 6 => v = .int .i64 ino | 7 => v = .pointer (some ⟨w.heap.size, 3, none⟩) | 8 => v = .int .i64 m | 9 => v = .pointer (some ⟨w.heap.size, 4, none⟩) | 10 => v = .int .i64 u1 | 11 => v = .pointer (some ⟨w.heap.size, 5, none⟩) | 12 => v = .int .i64 gi | 13 => v = .pointer (some ⟨w.heap.size, 6, none⟩) | 14 => v = .int .i64 t | 15 => v = .pointer (some ⟨w.heap.size, 1, none⟩) | 16 => v = .string p | 17 => v = .string p | 18 => v = .agg #[.int .i64 ino, .int .i64 m, .int .i64 u1, .int .i64 gi, .int .i64 0, .int .i64 t, .string p, .string ⟨#[]⟩] | _ => True)) (by kernel_rfl) (by kernel_rfl) ((Below.refl _ _).drew) (vBxG_keep _ _ _ _ _) (by simp) ?hops ?hend
  case hops =>
    simp only [List.take_succ_cons, List.take_zero, List.forall_mem_cons]
    refine ⟨?o6, ?o7, ?o8, ?o9, ?o10, ?o11, ?o12, ?o13, ?o14, ?o15, ?o16, ?o17, ?o18, ?o5, fun _ h => by cases h⟩
    case o6 =>
      intro Q a w2 hC hV hI
      have e1 : a.eval (.tmp 1) = .int .i64 ino := (hI 1 (by simp [Op.operands]) (by kernel_rfl)).trans rfl
      have f1 : a.tmps.getD 1 undef = .int .i64 ino := e1
      have g1 : a.tmps[1]?.getD undef = .int .i64 ino := by rw [← Array.getD_eq_getD_getElem?]; exact e1
      refine op_val (.int .i64 ino) ?_ hC (Below.refl _ _) (by intro d hd; cases hd; exact rfl)
      (clear hV hI hC; go_simp <;> (first | rfl | simp | (rw [IntKind.wrap_i64]; omega)))
    case o7 =>
      intro Q a w2 hC hV hI
      have e2 : a.eval (.tmp 2) = .pointer (some ⟨w.heap.size, 0, none⟩) := (hI 2 (by simp [Op.operands]) (by kernel_rfl)).trans rfl
      have f2 : a.tmps.getD 2 undef = .pointer (some ⟨w.heap.size, 0, none⟩) := e2
      have g2 : a.tmps[2]?.getD undef = .pointer (some ⟨w.heap.size, 0, none⟩) := by rw [← Array.getD_eq_getD_getElem?]; exact e2
      refine op_val (.pointer (some ⟨w.heap.size, 3, none⟩)) ?_ hC (Below.refl _ _) (by intro d hd; cases hd; exact rfl)
      (clear hV hI hC; go_simp <;> (first | rfl | simp | (rw [IntKind.wrap_i64]; omega)))
    case o8 =>
      intro Q a w2 hC hV hI
      have e7 : a.eval (.tmp 7) = .pointer (some ⟨w.heap.size, 3, none⟩) := hV 7 (by simp [Op.operands]) (by kernel_rfl)
      have f7 : a.tmps.getD 7 undef = .pointer (some ⟨w.heap.size, 3, none⟩) := e7
      have g7 : a.tmps[7]?.getD undef = .pointer (some ⟨w.heap.size, 3, none⟩) := by rw [← Array.getD_eq_getD_getElem?]; exact e7
      have hK := KC.out w2 hC
      refine op_val (.int .i64 m) ?_ hC (Below.refl _ _) (by intro d hd; cases hd; exact rfl)
      (clear hV hI hC; go_simp <;> (first | rfl | simp | (rw [IntKind.wrap_i64]; omega)))
    case o9 =>
      intro Q a w2 hC hV hI
      have e2 : a.eval (.tmp 2) = .pointer (some ⟨w.heap.size, 0, none⟩) := (hI 2 (by simp [Op.operands]) (by kernel_rfl)).trans rfl
      have f2 : a.tmps.getD 2 undef = .pointer (some ⟨w.heap.size, 0, none⟩) := e2
      have g2 : a.tmps[2]?.getD undef = .pointer (some ⟨w.heap.size, 0, none⟩) := by rw [← Array.getD_eq_getD_getElem?]; exact e2
      refine op_val (.pointer (some ⟨w.heap.size, 4, none⟩)) ?_ hC (Below.refl _ _) (by intro d hd; cases hd; exact rfl)
      (clear hV hI hC; go_simp <;> (first | rfl | simp | (rw [IntKind.wrap_i64]; omega)))
    case o10 =>
      intro Q a w2 hC hV hI
      have e9 : a.eval (.tmp 9) = .pointer (some ⟨w.heap.size, 4, none⟩) := hV 9 (by simp [Op.operands]) (by kernel_rfl)
      have f9 : a.tmps.getD 9 undef = .pointer (some ⟨w.heap.size, 4, none⟩) := e9
      have g9 : a.tmps[9]?.getD undef = .pointer (some ⟨w.heap.size, 4, none⟩) := by rw [← Array.getD_eq_getD_getElem?]; exact e9
      have hK := KC.out w2 hC
      refine op_val (.int .i64 u1) ?_ hC (Below.refl _ _) (by intro d hd; cases hd; exact rfl)
      (clear hV hI hC; go_simp <;> (first | rfl | simp | (rw [IntKind.wrap_i64]; omega)))
    case o11 =>
      intro Q a w2 hC hV hI
      have e2 : a.eval (.tmp 2) = .pointer (some ⟨w.heap.size, 0, none⟩) := (hI 2 (by simp [Op.operands]) (by kernel_rfl)).trans rfl
      have f2 : a.tmps.getD 2 undef = .pointer (some ⟨w.heap.size, 0, none⟩) := e2
      have g2 : a.tmps[2]?.getD undef = .pointer (some ⟨w.heap.size, 0, none⟩) := by rw [← Array.getD_eq_getD_getElem?]; exact e2
      refine op_val (.pointer (some ⟨w.heap.size, 5, none⟩)) ?_ hC (Below.refl _ _) (by intro d hd; cases hd; exact rfl)
      (clear hV hI hC; go_simp <;> (first | rfl | simp | (rw [IntKind.wrap_i64]; omega)))
    case o12 =>
      intro Q a w2 hC hV hI
      have e11 : a.eval (.tmp 11) = .pointer (some ⟨w.heap.size, 5, none⟩) := hV 11 (by simp [Op.operands]) (by kernel_rfl)
      have f11 : a.tmps.getD 11 undef = .pointer (some ⟨w.heap.size, 5, none⟩) := e11
      have g11 : a.tmps[11]?.getD undef = .pointer (some ⟨w.heap.size, 5, none⟩) := by rw [← Array.getD_eq_getD_getElem?]; exact e11
      have hK := KC.out w2 hC
      refine op_val (.int .i64 gi) ?_ hC (Below.refl _ _) (by intro d hd; cases hd; exact rfl)
      (clear hV hI hC; go_simp <;> (first | rfl | simp | (rw [IntKind.wrap_i64]; omega)))
    case o13 =>
      intro Q a w2 hC hV hI
      have e2 : a.eval (.tmp 2) = .pointer (some ⟨w.heap.size, 0, none⟩) := (hI 2 (by simp [Op.operands]) (by kernel_rfl)).trans rfl
      have f2 : a.tmps.getD 2 undef = .pointer (some ⟨w.heap.size, 0, none⟩) := e2
      have g2 : a.tmps[2]?.getD undef = .pointer (some ⟨w.heap.size, 0, none⟩) := by rw [← Array.getD_eq_getD_getElem?]; exact e2
      refine op_val (.pointer (some ⟨w.heap.size, 6, none⟩)) ?_ hC (Below.refl _ _) (by intro d hd; cases hd; exact rfl)
      (clear hV hI hC; go_simp <;> (first | rfl | simp | (rw [IntKind.wrap_i64]; omega)))
    case o14 =>
      intro Q a w2 hC hV hI
      have e13 : a.eval (.tmp 13) = .pointer (some ⟨w.heap.size, 6, none⟩) := hV 13 (by simp [Op.operands]) (by kernel_rfl)
      have f13 : a.tmps.getD 13 undef = .pointer (some ⟨w.heap.size, 6, none⟩) := e13
      have g13 : a.tmps[13]?.getD undef = .pointer (some ⟨w.heap.size, 6, none⟩) := by rw [← Array.getD_eq_getD_getElem?]; exact e13
      have hK := KC.out w2 hC
      refine op_val (.int .i64 t) ?_ hC (Below.refl _ _) (by intro d hd; cases hd; exact rfl)
      (clear hV hI hC; go_simp <;> (first | rfl | simp | (rw [IntKind.wrap_i64]; omega)))
    case o15 =>
      intro Q a w2 hC hV hI
      have e2 : a.eval (.tmp 2) = .pointer (some ⟨w.heap.size, 0, none⟩) := (hI 2 (by simp [Op.operands]) (by kernel_rfl)).trans rfl
      have f2 : a.tmps.getD 2 undef = .pointer (some ⟨w.heap.size, 0, none⟩) := e2
      have g2 : a.tmps[2]?.getD undef = .pointer (some ⟨w.heap.size, 0, none⟩) := by rw [← Array.getD_eq_getD_getElem?]; exact e2
      refine op_val (.pointer (some ⟨w.heap.size, 1, none⟩)) ?_ hC (Below.refl _ _) (by intro d hd; cases hd; exact rfl)
      (clear hV hI hC; go_simp <;> (first | rfl | simp | (rw [IntKind.wrap_i64]; omega)))
    case o16 =>
      intro Q a w2 hC hV hI
      have e15 : a.eval (.tmp 15) = .pointer (some ⟨w.heap.size, 1, none⟩) := hV 15 (by simp [Op.operands]) (by kernel_rfl)
      have f15 : a.tmps.getD 15 undef = .pointer (some ⟨w.heap.size, 1, none⟩) := e15
      have g15 : a.tmps[15]?.getD undef = .pointer (some ⟨w.heap.size, 1, none⟩) := by rw [← Array.getD_eq_getD_getElem?]; exact e15
      have hK := KC.out w2 hC
      refine op_val (.string p) ?_ hC (Below.refl _ _) (by intro d hd; cases hd; exact rfl)
      (clear hV hI hC; go_simp <;> (first | rfl | simp | (rw [IntKind.wrap_i64]; omega)))
    case o17 =>
      intro Q a w2 hC hV hI
      have e16 : a.eval (.tmp 16) = .string p := hV 16 (by simp [Op.operands, Call.operands]) (by kernel_rfl)
      have f16 : a.tmps.getD 16 undef = .string p := e16
      have g16 : a.tmps[16]?.getD undef = .string p := by rw [← Array.getD_eq_getD_getElem?]; exact e16
      refine op_call (f := 67) (args := #[.string p]) (R := fun v y => v = .string p ∧ Below w2.heap.size w2 y) ?_ ((HC.out w2).mono ?_) ?_
      · (clear hV hI hC; go_simp <;> (first | rfl | simp | (rw [IntKind.wrap_i64]; omega)))
      · rintro e y ⟨rfl, hb⟩; exact ⟨_, rfl, rfl, hb⟩
      · rintro v y ⟨rfl, hb⟩; exact ⟨hC.trans (hb.mono hC.size), hb, by intro d hd; cases hd; exact rfl⟩
    case o18 =>
      intro Q a w2 hC hV hI
      have e6 : a.eval (.tmp 6) = .int .i64 ino := hV 6 (by simp [Op.operands]) (by kernel_rfl)
      have f6 : a.tmps.getD 6 undef = .int .i64 ino := e6
      have g6 : a.tmps[6]?.getD undef = .int .i64 ino := by rw [← Array.getD_eq_getD_getElem?]; exact e6
      have e8 : a.eval (.tmp 8) = .int .i64 m := hV 8 (by simp [Op.operands]) (by kernel_rfl)
      have f8 : a.tmps.getD 8 undef = .int .i64 m := e8
      have g8 : a.tmps[8]?.getD undef = .int .i64 m := by rw [← Array.getD_eq_getD_getElem?]; exact e8
      have e10 : a.eval (.tmp 10) = .int .i64 u1 := hV 10 (by simp [Op.operands]) (by kernel_rfl)
      have f10 : a.tmps.getD 10 undef = .int .i64 u1 := e10
      have g10 : a.tmps[10]?.getD undef = .int .i64 u1 := by rw [← Array.getD_eq_getD_getElem?]; exact e10
      have e12 : a.eval (.tmp 12) = .int .i64 gi := hV 12 (by simp [Op.operands]) (by kernel_rfl)
      have f12 : a.tmps.getD 12 undef = .int .i64 gi := e12
      have g12 : a.tmps[12]?.getD undef = .int .i64 gi := by rw [← Array.getD_eq_getD_getElem?]; exact e12
      have e14 : a.eval (.tmp 14) = .int .i64 t := hV 14 (by simp [Op.operands]) (by kernel_rfl)
      have f14 : a.tmps.getD 14 undef = .int .i64 t := e14
      have g14 : a.tmps[14]?.getD undef = .int .i64 t := by rw [← Array.getD_eq_getD_getElem?]; exact e14
      have e17 : a.eval (.tmp 17) = .string p := hV 17 (by simp [Op.operands]) (by kernel_rfl)
      have f17 : a.tmps.getD 17 undef = .string p := e17
      have g17 : a.tmps[17]?.getD undef = .string p := by rw [← Array.getD_eq_getD_getElem?]; exact e17
      refine op_val (.agg #[.int .i64 ino, .int .i64 m, .int .i64 u1, .int .i64 gi, .int .i64 0, .int .i64 t, .string p, .string ⟨#[]⟩]) ?_ hC (Below.refl _ _) (by intro d hd; cases hd; exact rfl)
      (clear hV hI hC; go_simp <;> (first | rfl | simp | (rw [IntKind.wrap_i64]; omega)))
    case o5 =>
      intro Q a w2 hC hV hI
      refine op_val (.pointer (some ⟨w2.heap.size, 0, none⟩)) (w' := w2.alloc (.cells #[.int .i64 0, .int .i64 0, .int .i64 0, .int .i64 0, .int .i64 0, .int .i64 0, .string ⟨#[]⟩, .string ⟨#[]⟩] 44)) ?_ (hC.alloc hC.size _) ((Below.refl _ _).alloc (Nat.le_refl _) _) ?_
      · (clear hV hI hC; go_simp <;> (first | rfl | simp | (rw [IntKind.wrap_i64]; omega)))
      · intro d hd; cases hd; exact ⟨w2.heap.size, rfl, hC.size, heap_lastG _ _⟩
  case hend =>
    intro f w2 hC hall
    simp only [List.take_succ_cons, List.take_zero, List.drop_succ_cons, List.drop_zero] at hall ⊢
    simp only [List.forall_mem_cons] at hall
    obtain ⟨h6, h7, h8, h9, h10, h11, h12, h13, h14, h15, h16, h17, h18, h5, _⟩ := hall
    replace h6 : f 6 = .int .i64 ino := h6 6 rfl
    replace h7 : f 7 = .pointer (some ⟨w.heap.size, 3, none⟩) := h7 7 rfl
    replace h8 : f 8 = .int .i64 m := h8 8 rfl
    replace h9 : f 9 = .pointer (some ⟨w.heap.size, 4, none⟩) := h9 9 rfl
    replace h10 : f 10 = .int .i64 u1 := h10 10 rfl
    replace h11 : f 11 = .pointer (some ⟨w.heap.size, 5, none⟩) := h11 11 rfl
    replace h12 : f 12 = .int .i64 gi := h12 12 rfl
    replace h13 : f 13 = .pointer (some ⟨w.heap.size, 6, none⟩) := h13 13 rfl
    replace h14 : f 14 = .int .i64 t := h14 14 rfl
    replace h15 : f 15 = .pointer (some ⟨w.heap.size, 1, none⟩) := h15 15 rfl
    replace h16 : f 16 = .string p := h16 16 rfl
    replace h17 : f 17 = .string p := h17 17 rfl
    replace h18 : f 18 = .agg #[.int .i64 ino, .int .i64 m, .int .i64 u1, .int .i64 gi, .int .i64 0, .int .i64 t, .string p, .string ⟨#[]⟩] := h18 18 rfl
    obtain ⟨G5, hG5, hGB5, hGO5⟩ : ∃ G, f 5 = .pointer (some ⟨G, 0, none⟩) ∧ w1.heap.size ≤ G ∧ w2.heap[G]? = some (.cells #[.int .i64 0, .int .i64 0, .int .i64 0, .int .i64 0, .int .i64 0, .int .i64 0, .string ⟨#[]⟩, .string ⟨#[]⟩] 44 (0, 0)) := h5 5 rfl
    simp only [putAll, Act.put, List.setIfInBounds_toArray, List.set_cons_succ, List.set_cons_zero, h6, h7, h8, h9, h10, h11, h12, h13, h14, h15, h16, h17, h18, hG5]
    clear h6 h7 h8 h9 h10 h11 h12 h13 h14 h15 h16 h17 h18 hG5 h5
    clear KC
    replace EO := Lib.hid (EO.out.below hC (by omega))
    replace RO := Lib.hid (RO.out.below hC (by omega))
    have hB2 := btE B0.out (hC.mono (Nat.le_refl _))
    have XO : CardO w2 G5 zeroC := hGO5
    have hne0 : ¬ w.heap.size = G5 := by omega
    have hne1 : ¬ w.heap.size + 1 = G5 := by omega
    have hlt5 : w.heap.size ≤ G5 := by omega
    obtain ⟨d0, d1, d2, d3, d4, d5, d6, d7⟩ := XO.at.zero
    have f0 := XO.fz 0
    have f1 := XO.fz 1
    have f2 := XO.fz 2
    have f3 := XO.fz 3
    have f4 := XO.fz 4
    have f5 := XO.fz 5
    have f6 := XO.fz 6
    have f7 := XO.fz 7
    have XP := XO.put ⟨ino, m, u1, gi, 0, t, p, ⟨#[]⟩⟩
    have EP : EntO (putOC w2 G5 ⟨ino, m, u1, gi, 0, t, p, ⟨#[]⟩⟩) w.heap.size ⟨1, p, l, m, u1, gi, t, us, gr, b⟩ := (putOC_other hne0).trans EO.out
    have RP : CardO (putOC w2 G5 ⟨ino, m, u1, gi, 0, t, p, ⟨#[]⟩⟩) (w.heap.size + 1) zeroC := (putOC_other hne1).trans RO.out
    have BP := below_putOC (g := G5) hB2 hlt5 ⟨ino, m, u1, gi, 0, t, p, ⟨#[]⟩⟩
    simp only [putOC] at XP EP RP BP
    go_upto_region 2 with fail
    obtain ⟨w3, hw3⟩ : ∃ x, x = ((((((((w2.setCell ⟨G5, 0, none⟩ (.int .i64 ino)).setCell ⟨G5, 1, none⟩ (.int .i64 m)).setCell ⟨G5, 2, none⟩ (.int .i64 u1)).setCell ⟨G5, 3, none⟩ (.int .i64 gi)).setCell ⟨G5, 4, none⟩ (.int .i64 0)).setCell ⟨G5, 5, none⟩ (.int .i64 t)).setCell ⟨G5, 6, none⟩ (.string p)).setCell ⟨G5, 7, none⟩ (.string ⟨#[]⟩)) := ⟨_, rfl⟩
    rw [← hw3] at XP EP RP BP ⊢
    have X := Lib.hid XP
    have R := Lib.hid RP
    have Bw := Lib.hid BP
    obtain ⟨e0, e1, e2, e3, e4, e5, e6, e7, e8, e9⟩ := EP.at.zero
    clear XP RP BP hw3 d0 d1 d2 d3 d4 d5 d6 d7 f0 f1 f2 f3 f4 f5 f6 f7 XO hGO5 hB2 EO RO
    obtain ⟨d0, d1, d2, d3, d4, d5, d6, d7⟩ := X.out.at.zero
    have f1 := X.out.fz 1
    have XP := X.out.set (e' := ⟨ino, m + 16384, u1, gi, 0, t, p, ⟨#[]⟩⟩) 1 (.int .i64 (m + 16384)) rfl
    have RP : CardO (w3.setCell ⟨G5, 1, none⟩ (.int .i64 (m + 16384))) (w.heap.size + 1) zeroC := R.out.other hne1
    have EP2 : EntO (w3.setCell ⟨G5, 1, none⟩ (.int .i64 (m + 16384))) w.heap.size ⟨1, p, l, m, u1, gi, t, us, gr, b⟩ := EP.other hne0
    have BP := Bw.out.setCell (p := ⟨G5, 1, none⟩) hlt5 (.int .i64 (m + 16384))
    go_upto_region 10 with fail
    obtain ⟨w6, hw6⟩ : ∃ x, x = w3.setCell ⟨G5, 1, none⟩ (.int .i64 (m + 16384)) := ⟨_, rfl⟩
    rw [← hw6] at XP RP BP EP2 ⊢
    clear hw6 EP2 e0 e1 e2 e3 e4 e5 e6 e7 e8 e9 d0 d1 d2 d3 d4 d5 d6 d7 f1 EP X R Bw
    obtain ⟨x0, x1, x2, x3, x4, x5, x6, x7⟩ := XP.at.zero
    obtain ⟨d0, d1, d2, d3, d4, d5, d6, d7⟩ := RP.at.zero
    have f0 := RP.fz 0
    have f1 := RP.fz 1
    have f2 := RP.fz 2
    have f3 := RP.fz 3
    have f4 := RP.fz 4
    have f5 := RP.fz 5
    have f6 := RP.fz 6
    have f7 := RP.fz 7
    have R9 := RP.put ⟨ino, m + 16384, u1, gi, 0, t, p, ⟨#[]⟩⟩
    have B9 := below_putOC (g := w.heap.size + 1) BP (by omega) ⟨ino, m + 16384, u1, gi, 0, t, p, ⟨#[]⟩⟩
    simp only [putOC] at R9 B9
    go_wp2_with fail
    refine bodyPost_ret (res_OC1 rfl _ rfl R9) rfl ?_
    exact ⟨rfl, B9⟩
set_option maxHeartbeats 3200000 in
set_option maxRecDepth 8000 in
theorem cardOf_sym (p l : ByteArray) (m u1 gi t : Int) (us gr b : ByteArray) (ino : Int) (w : World) (hp : p.size ≤ 4194304) (hl : l.size ≤ 4194304) (hm0 : 0 ≤ m) (hm1 : m ≤ 4095) :
    Calls Tryz.prog 69 #[.agg #[.int .i64 2, .string p, .string l, .int .i64 m, .int .i64 u1, .int .i64 gi, .int .i64 t, .string us, .string gr, .string b], .int .i64 ino] w fun e w' => e = .returned (.agg #[.int .i64 ino, .int .i64 (m + 40960), .int .i64 u1, .int .i64 gi, .int .i64 0, .int .i64 t, .string p, .string l]) ∧ Below w.heap.size w w' := by
  have HC := Lib.hid (fun w => clone_any p w (by omega))
  have HD := Lib.hid (fun w => clone_any l w (by omega))
  go_enter Tryz.func69, Tryz.ntmps69
  go_upto_region 1 with fail
  generalize hw1 : World.alloc (World.alloc w _) _ = w1
  have EO : Hid (EntO w1 w.heap.size ⟨2, p, l, m, u1, gi, t, us, gr, b⟩) := Lib.hid (by rw [← hw1]; exact (EntO.new w ⟨2, p, l, m, u1, gi, t, us, gr, b⟩).below (B := w.heap.size + 1) ((Below.refl _ _).alloc (by simp) _) (by omega))
  have RO : Hid (CardO w1 (w.heap.size + 1) zeroC) := Lib.hid (by rw [← hw1]; exact CardO.newAt (w.alloc (.cells (Ent.cells ⟨2, p, l, m, u1, gi, t, us, gr, b⟩).toArray 41)) zeroC _ (by simp))
  have B0 : Hid (Below w.heap.size w w1) := Lib.hid (by rw [← hw1]; exact ((Below.refl _ _).alloc (Nat.le_refl _) _).alloc (by simp) _)
  have hs1 : w1.heap.size = w.heap.size + 2 := by rw [← hw1]; simp
  clear hw1
  have KC : Hid (∀ w', Below w1.heap.size w1 w' → w'.cell? ⟨w.heap.size, 1, none⟩ = some (.string p) ∧ w'.cell? ⟨w.heap.size, 3, none⟩ = some (.int .i64 m) ∧ w'.cell? ⟨w.heap.size, 4, none⟩ = some (.int .i64 u1) ∧ w'.cell? ⟨w.heap.size, 5, none⟩ = some (.int .i64 gi) ∧ w'.cell? ⟨w.heap.size, 6, none⟩ = some (.int .i64 t)) := Lib.hid (fun w' hb => by
    obtain ⟨d0, d1, d2, d3, d4, d5, d6, d7, d8, d9⟩ := (EO.out.below hb (by omega)).at.zero
    exact ⟨d1, d3, d4, d5, d6⟩)
  refine wp_region_cut 14 (by kernel_rfl) (fun w' => Below w1.heap.size w1 w') (fun x y => Below x.heap.size x y) (vBxG 5 44 w1.heap.size #[.int .i64 0, .int .i64 0, .int .i64 0, .int .i64 0, .int .i64 0, .int .i64 0, .string ⟨#[]⟩, .string ⟨#[]⟩] (fun d v => match d with | 6 => v = .int .i64 ino | 7 => v = .pointer (some ⟨w.heap.size, 3, none⟩) | 8 => v = .int .i64 m | 9 => v = .pointer (some ⟨w.heap.size, 4, none⟩) | 10 => v = .int .i64 u1 | 11 => v = .pointer (some ⟨w.heap.size, 5, none⟩) | 12 => v = .int .i64 gi | 13 => v = .pointer (some ⟨w.heap.size, 6, none⟩) | 14 => v = .int .i64 t | 15 => v = .pointer (some ⟨w.heap.size, 1, none⟩) | 16 => v = .string p | 17 => v = .string p | 18 => v = .agg #[.int .i64 ino, .int .i64 m, .int .i64 u1, .int .i64 gi, .int .i64 0, .int .i64 t, .string p, .string ⟨#[]⟩] | _ => True)) (by kernel_rfl) (by kernel_rfl) ((Below.refl _ _).drew) (vBxG_keep _ _ _ _ _) (by simp) ?hops ?hend
  case hops =>
    simp only [List.take_succ_cons, List.take_zero, List.forall_mem_cons]
    refine ⟨?o6, ?o7, ?o8, ?o9, ?o10, ?o11, ?o12, ?o13, ?o14, ?o15, ?o16, ?o17, ?o18, ?o5, fun _ h => by cases h⟩
    case o6 =>
      intro Q a w2 hC hV hI
      have e1 : a.eval (.tmp 1) = .int .i64 ino := (hI 1 (by simp [Op.operands]) (by kernel_rfl)).trans rfl
      have f1 : a.tmps.getD 1 undef = .int .i64 ino := e1
      have g1 : a.tmps[1]?.getD undef = .int .i64 ino := by rw [← Array.getD_eq_getD_getElem?]; exact e1
      refine op_val (.int .i64 ino) ?_ hC (Below.refl _ _) (by intro d hd; cases hd; exact rfl)
      (clear hV hI hC; go_simp <;> (first | rfl | simp | (rw [IntKind.wrap_i64]; omega)))
    case o7 =>
      intro Q a w2 hC hV hI
      have e2 : a.eval (.tmp 2) = .pointer (some ⟨w.heap.size, 0, none⟩) := (hI 2 (by simp [Op.operands]) (by kernel_rfl)).trans rfl
      have f2 : a.tmps.getD 2 undef = .pointer (some ⟨w.heap.size, 0, none⟩) := e2
      have g2 : a.tmps[2]?.getD undef = .pointer (some ⟨w.heap.size, 0, none⟩) := by rw [← Array.getD_eq_getD_getElem?]; exact e2
      refine op_val (.pointer (some ⟨w.heap.size, 3, none⟩)) ?_ hC (Below.refl _ _) (by intro d hd; cases hd; exact rfl)
      (clear hV hI hC; go_simp <;> (first | rfl | simp | (rw [IntKind.wrap_i64]; omega)))
    case o8 =>
      intro Q a w2 hC hV hI
      have e7 : a.eval (.tmp 7) = .pointer (some ⟨w.heap.size, 3, none⟩) := hV 7 (by simp [Op.operands]) (by kernel_rfl)
      have f7 : a.tmps.getD 7 undef = .pointer (some ⟨w.heap.size, 3, none⟩) := e7
      have g7 : a.tmps[7]?.getD undef = .pointer (some ⟨w.heap.size, 3, none⟩) := by rw [← Array.getD_eq_getD_getElem?]; exact e7
      have hK := KC.out w2 hC
      refine op_val (.int .i64 m) ?_ hC (Below.refl _ _) (by intro d hd; cases hd; exact rfl)
      (clear hV hI hC; go_simp <;> (first | rfl | simp | (rw [IntKind.wrap_i64]; omega)))
    case o9 =>
      intro Q a w2 hC hV hI
      have e2 : a.eval (.tmp 2) = .pointer (some ⟨w.heap.size, 0, none⟩) := (hI 2 (by simp [Op.operands]) (by kernel_rfl)).trans rfl
      have f2 : a.tmps.getD 2 undef = .pointer (some ⟨w.heap.size, 0, none⟩) := e2
      have g2 : a.tmps[2]?.getD undef = .pointer (some ⟨w.heap.size, 0, none⟩) := by rw [← Array.getD_eq_getD_getElem?]; exact e2
      refine op_val (.pointer (some ⟨w.heap.size, 4, none⟩)) ?_ hC (Below.refl _ _) (by intro d hd; cases hd; exact rfl)
      (clear hV hI hC; go_simp <;> (first | rfl | simp | (rw [IntKind.wrap_i64]; omega)))
    case o10 =>
      intro Q a w2 hC hV hI
      have e9 : a.eval (.tmp 9) = .pointer (some ⟨w.heap.size, 4, none⟩) := hV 9 (by simp [Op.operands]) (by kernel_rfl)
      have f9 : a.tmps.getD 9 undef = .pointer (some ⟨w.heap.size, 4, none⟩) := e9
      have g9 : a.tmps[9]?.getD undef = .pointer (some ⟨w.heap.size, 4, none⟩) := by rw [← Array.getD_eq_getD_getElem?]; exact e9
      have hK := KC.out w2 hC
      refine op_val (.int .i64 u1) ?_ hC (Below.refl _ _) (by intro d hd; cases hd; exact rfl)
      (clear hV hI hC; go_simp <;> (first | rfl | simp | (rw [IntKind.wrap_i64]; omega)))
    case o11 =>
      intro Q a w2 hC hV hI
      have e2 : a.eval (.tmp 2) = .pointer (some ⟨w.heap.size, 0, none⟩) := (hI 2 (by simp [Op.operands]) (by kernel_rfl)).trans rfl
      have f2 : a.tmps.getD 2 undef = .pointer (some ⟨w.heap.size, 0, none⟩) := e2
      have g2 : a.tmps[2]?.getD undef = .pointer (some ⟨w.heap.size, 0, none⟩) := by rw [← Array.getD_eq_getD_getElem?]; exact e2
      refine op_val (.pointer (some ⟨w.heap.size, 5, none⟩)) ?_ hC (Below.refl _ _) (by intro d hd; cases hd; exact rfl)
      (clear hV hI hC; go_simp <;> (first | rfl | simp | (rw [IntKind.wrap_i64]; omega)))
    case o12 =>
      intro Q a w2 hC hV hI
      have e11 : a.eval (.tmp 11) = .pointer (some ⟨w.heap.size, 5, none⟩) := hV 11 (by simp [Op.operands]) (by kernel_rfl)
      have f11 : a.tmps.getD 11 undef = .pointer (some ⟨w.heap.size, 5, none⟩) := e11
      have g11 : a.tmps[11]?.getD undef = .pointer (some ⟨w.heap.size, 5, none⟩) := by rw [← Array.getD_eq_getD_getElem?]; exact e11
      have hK := KC.out w2 hC
      refine op_val (.int .i64 gi) ?_ hC (Below.refl _ _) (by intro d hd; cases hd; exact rfl)
      (clear hV hI hC; go_simp <;> (first | rfl | simp | (rw [IntKind.wrap_i64]; omega)))
    case o13 =>
      intro Q a w2 hC hV hI
      have e2 : a.eval (.tmp 2) = .pointer (some ⟨w.heap.size, 0, none⟩) := (hI 2 (by simp [Op.operands]) (by kernel_rfl)).trans rfl
      have f2 : a.tmps.getD 2 undef = .pointer (some ⟨w.heap.size, 0, none⟩) := e2
      have g2 : a.tmps[2]?.getD undef = .pointer (some ⟨w.heap.size, 0, none⟩) := by rw [← Array.getD_eq_getD_getElem?]; exact e2
      refine op_val (.pointer (some ⟨w.heap.size, 6, none⟩)) ?_ hC (Below.refl _ _) (by intro d hd; cases hd; exact rfl)
      (clear hV hI hC; go_simp <;> (first | rfl | simp | (rw [IntKind.wrap_i64]; omega)))
    case o14 =>
      intro Q a w2 hC hV hI
      have e13 : a.eval (.tmp 13) = .pointer (some ⟨w.heap.size, 6, none⟩) := hV 13 (by simp [Op.operands]) (by kernel_rfl)
      have f13 : a.tmps.getD 13 undef = .pointer (some ⟨w.heap.size, 6, none⟩) := e13
      have g13 : a.tmps[13]?.getD undef = .pointer (some ⟨w.heap.size, 6, none⟩) := by rw [← Array.getD_eq_getD_getElem?]; exact e13
      have hK := KC.out w2 hC
      refine op_val (.int .i64 t) ?_ hC (Below.refl _ _) (by intro d hd; cases hd; exact rfl)
      (clear hV hI hC; go_simp <;> (first | rfl | simp | (rw [IntKind.wrap_i64]; omega)))
    case o15 =>
      intro Q a w2 hC hV hI
      have e2 : a.eval (.tmp 2) = .pointer (some ⟨w.heap.size, 0, none⟩) := (hI 2 (by simp [Op.operands]) (by kernel_rfl)).trans rfl
      have f2 : a.tmps.getD 2 undef = .pointer (some ⟨w.heap.size, 0, none⟩) := e2
      have g2 : a.tmps[2]?.getD undef = .pointer (some ⟨w.heap.size, 0, none⟩) := by rw [← Array.getD_eq_getD_getElem?]; exact e2
      refine op_val (.pointer (some ⟨w.heap.size, 1, none⟩)) ?_ hC (Below.refl _ _) (by intro d hd; cases hd; exact rfl)
      (clear hV hI hC; go_simp <;> (first | rfl | simp | (rw [IntKind.wrap_i64]; omega)))
    case o16 =>
      intro Q a w2 hC hV hI
      have e15 : a.eval (.tmp 15) = .pointer (some ⟨w.heap.size, 1, none⟩) := hV 15 (by simp [Op.operands]) (by kernel_rfl)
      have f15 : a.tmps.getD 15 undef = .pointer (some ⟨w.heap.size, 1, none⟩) := e15
      have g15 : a.tmps[15]?.getD undef = .pointer (some ⟨w.heap.size, 1, none⟩) := by rw [← Array.getD_eq_getD_getElem?]; exact e15
      have hK := KC.out w2 hC
      refine op_val (.string p) ?_ hC (Below.refl _ _) (by intro d hd; cases hd; exact rfl)
      (clear hV hI hC; go_simp <;> (first | rfl | simp | (rw [IntKind.wrap_i64]; omega)))
    case o17 =>
      intro Q a w2 hC hV hI
      have e16 : a.eval (.tmp 16) = .string p := hV 16 (by simp [Op.operands, Call.operands]) (by kernel_rfl)
      have f16 : a.tmps.getD 16 undef = .string p := e16
      have g16 : a.tmps[16]?.getD undef = .string p := by rw [← Array.getD_eq_getD_getElem?]; exact e16
      refine op_call (f := 67) (args := #[.string p]) (R := fun v y => v = .string p ∧ Below w2.heap.size w2 y) ?_ ((HC.out w2).mono ?_) ?_
      · (clear hV hI hC; go_simp <;> (first | rfl | simp | (rw [IntKind.wrap_i64]; omega)))
      · rintro e y ⟨rfl, hb⟩; exact ⟨_, rfl, rfl, hb⟩
      · rintro v y ⟨rfl, hb⟩; exact ⟨hC.trans (hb.mono hC.size), hb, by intro d hd; cases hd; exact rfl⟩
    case o18 =>
      intro Q a w2 hC hV hI
      have e6 : a.eval (.tmp 6) = .int .i64 ino := hV 6 (by simp [Op.operands]) (by kernel_rfl)
      have f6 : a.tmps.getD 6 undef = .int .i64 ino := e6
      have g6 : a.tmps[6]?.getD undef = .int .i64 ino := by rw [← Array.getD_eq_getD_getElem?]; exact e6
      have e8 : a.eval (.tmp 8) = .int .i64 m := hV 8 (by simp [Op.operands]) (by kernel_rfl)
      have f8 : a.tmps.getD 8 undef = .int .i64 m := e8
      have g8 : a.tmps[8]?.getD undef = .int .i64 m := by rw [← Array.getD_eq_getD_getElem?]; exact e8
      have e10 : a.eval (.tmp 10) = .int .i64 u1 := hV 10 (by simp [Op.operands]) (by kernel_rfl)
      have f10 : a.tmps.getD 10 undef = .int .i64 u1 := e10
      have g10 : a.tmps[10]?.getD undef = .int .i64 u1 := by rw [← Array.getD_eq_getD_getElem?]; exact e10
      have e12 : a.eval (.tmp 12) = .int .i64 gi := hV 12 (by simp [Op.operands]) (by kernel_rfl)
      have f12 : a.tmps.getD 12 undef = .int .i64 gi := e12
      have g12 : a.tmps[12]?.getD undef = .int .i64 gi := by rw [← Array.getD_eq_getD_getElem?]; exact e12
      have e14 : a.eval (.tmp 14) = .int .i64 t := hV 14 (by simp [Op.operands]) (by kernel_rfl)
      have f14 : a.tmps.getD 14 undef = .int .i64 t := e14
      have g14 : a.tmps[14]?.getD undef = .int .i64 t := by rw [← Array.getD_eq_getD_getElem?]; exact e14
      have e17 : a.eval (.tmp 17) = .string p := hV 17 (by simp [Op.operands]) (by kernel_rfl)
      have f17 : a.tmps.getD 17 undef = .string p := e17
      have g17 : a.tmps[17]?.getD undef = .string p := by rw [← Array.getD_eq_getD_getElem?]; exact e17
      refine op_val (.agg #[.int .i64 ino, .int .i64 m, .int .i64 u1, .int .i64 gi, .int .i64 0, .int .i64 t, .string p, .string ⟨#[]⟩]) ?_ hC (Below.refl _ _) (by intro d hd; cases hd; exact rfl)
      (clear hV hI hC; go_simp <;> (first | rfl | simp | (rw [IntKind.wrap_i64]; omega)))
    case o5 =>
      intro Q a w2 hC hV hI
      refine op_val (.pointer (some ⟨w2.heap.size, 0, none⟩)) (w' := w2.alloc (.cells #[.int .i64 0, .int .i64 0, .int .i64 0, .int .i64 0, .int .i64 0, .int .i64 0, .string ⟨#[]⟩, .string ⟨#[]⟩] 44)) ?_ (hC.alloc hC.size _) ((Below.refl _ _).alloc (Nat.le_refl _) _) ?_
      · (clear hV hI hC; go_simp <;> (first | rfl | simp | (rw [IntKind.wrap_i64]; omega)))
      · intro d hd; cases hd; exact ⟨w2.heap.size, rfl, hC.size, heap_lastG _ _⟩
  case hend =>
    intro f w2 hC hall
    simp only [List.take_succ_cons, List.take_zero, List.drop_succ_cons, List.drop_zero] at hall ⊢
    simp only [List.forall_mem_cons] at hall
    obtain ⟨h6, h7, h8, h9, h10, h11, h12, h13, h14, h15, h16, h17, h18, h5, _⟩ := hall
    replace h6 : f 6 = .int .i64 ino := h6 6 rfl
    replace h7 : f 7 = .pointer (some ⟨w.heap.size, 3, none⟩) := h7 7 rfl
    replace h8 : f 8 = .int .i64 m := h8 8 rfl
    replace h9 : f 9 = .pointer (some ⟨w.heap.size, 4, none⟩) := h9 9 rfl
    replace h10 : f 10 = .int .i64 u1 := h10 10 rfl
    replace h11 : f 11 = .pointer (some ⟨w.heap.size, 5, none⟩) := h11 11 rfl
    replace h12 : f 12 = .int .i64 gi := h12 12 rfl
    replace h13 : f 13 = .pointer (some ⟨w.heap.size, 6, none⟩) := h13 13 rfl
    replace h14 : f 14 = .int .i64 t := h14 14 rfl
    replace h15 : f 15 = .pointer (some ⟨w.heap.size, 1, none⟩) := h15 15 rfl
    replace h16 : f 16 = .string p := h16 16 rfl
    replace h17 : f 17 = .string p := h17 17 rfl
    replace h18 : f 18 = .agg #[.int .i64 ino, .int .i64 m, .int .i64 u1, .int .i64 gi, .int .i64 0, .int .i64 t, .string p, .string ⟨#[]⟩] := h18 18 rfl
    obtain ⟨G5, hG5, hGB5, hGO5⟩ : ∃ G, f 5 = .pointer (some ⟨G, 0, none⟩) ∧ w1.heap.size ≤ G ∧ w2.heap[G]? = some (.cells #[.int .i64 0, .int .i64 0, .int .i64 0, .int .i64 0, .int .i64 0, .int .i64 0, .string ⟨#[]⟩, .string ⟨#[]⟩] 44 (0, 0)) := h5 5 rfl
    simp only [putAll, Act.put, List.setIfInBounds_toArray, List.set_cons_succ, List.set_cons_zero, h6, h7, h8, h9, h10, h11, h12, h13, h14, h15, h16, h17, h18, hG5]
    clear h6 h7 h8 h9 h10 h11 h12 h13 h14 h15 h16 h17 h18 hG5 h5
    clear KC
    replace EO := Lib.hid (EO.out.below hC (by omega))
    replace RO := Lib.hid (RO.out.below hC (by omega))
    have hB2 := btE B0.out (hC.mono (Nat.le_refl _))
    have XO : CardO w2 G5 zeroC := hGO5
    have hne0 : ¬ w.heap.size = G5 := by omega
    have hne1 : ¬ w.heap.size + 1 = G5 := by omega
    have hlt5 : w.heap.size ≤ G5 := by omega
    obtain ⟨d0, d1, d2, d3, d4, d5, d6, d7⟩ := XO.at.zero
    have f0 := XO.fz 0
    have f1 := XO.fz 1
    have f2 := XO.fz 2
    have f3 := XO.fz 3
    have f4 := XO.fz 4
    have f5 := XO.fz 5
    have f6 := XO.fz 6
    have f7 := XO.fz 7
    have XP := XO.put ⟨ino, m, u1, gi, 0, t, p, ⟨#[]⟩⟩
    have EP : EntO (putOC w2 G5 ⟨ino, m, u1, gi, 0, t, p, ⟨#[]⟩⟩) w.heap.size ⟨2, p, l, m, u1, gi, t, us, gr, b⟩ := (putOC_other hne0).trans EO.out
    have RP : CardO (putOC w2 G5 ⟨ino, m, u1, gi, 0, t, p, ⟨#[]⟩⟩) (w.heap.size + 1) zeroC := (putOC_other hne1).trans RO.out
    have BP := below_putOC (g := G5) hB2 hlt5 ⟨ino, m, u1, gi, 0, t, p, ⟨#[]⟩⟩
    simp only [putOC] at XP EP RP BP
    go_upto_region 2 with fail
    obtain ⟨w3, hw3⟩ : ∃ x, x = ((((((((w2.setCell ⟨G5, 0, none⟩ (.int .i64 ino)).setCell ⟨G5, 1, none⟩ (.int .i64 m)).setCell ⟨G5, 2, none⟩ (.int .i64 u1)).setCell ⟨G5, 3, none⟩ (.int .i64 gi)).setCell ⟨G5, 4, none⟩ (.int .i64 0)).setCell ⟨G5, 5, none⟩ (.int .i64 t)).setCell ⟨G5, 6, none⟩ (.string p)).setCell ⟨G5, 7, none⟩ (.string ⟨#[]⟩)) := ⟨_, rfl⟩
    rw [← hw3] at XP EP RP BP ⊢
    have X := Lib.hid XP
    have R := Lib.hid RP
    have Bw := Lib.hid BP
    obtain ⟨e0, e1, e2, e3, e4, e5, e6, e7, e8, e9⟩ := EP.at.zero
    clear XP RP BP hw3 d0 d1 d2 d3 d4 d5 d6 d7 f0 f1 f2 f3 f4 f5 f6 f7 XO hGO5 hB2 EO RO
    obtain ⟨d0, d1, d2, d3, d4, d5, d6, d7⟩ := X.out.at.zero
    have f1 := X.out.fz 1
    have XP := X.out.set (e' := ⟨ino, m + 40960, u1, gi, 0, t, p, ⟨#[]⟩⟩) 1 (.int .i64 (m + 40960)) rfl
    have RP : CardO (w3.setCell ⟨G5, 1, none⟩ (.int .i64 (m + 40960))) (w.heap.size + 1) zeroC := R.out.other hne1
    have EP2 : EntO (w3.setCell ⟨G5, 1, none⟩ (.int .i64 (m + 40960))) w.heap.size ⟨2, p, l, m, u1, gi, t, us, gr, b⟩ := EP.other hne0
    have BP := Bw.out.setCell (p := ⟨G5, 1, none⟩) hlt5 (.int .i64 (m + 40960))
    go_wp2_with fail
    obtain ⟨w4, hw4⟩ : ∃ x, x = w3.setCell ⟨G5, 1, none⟩ (.int .i64 (m + 40960)) := ⟨_, rfl⟩
    rw [← hw4] at XP RP BP EP2 ⊢
    clear hw4 EP2 e0 e1 e2 e3 e4 e5 e6 e7 e8 e9 d0 d1 d2 d3 d4 d5 d6 d7 f1 EP X R Bw
    refine (HD.out _).mono ?_
    rintro e w5 ⟨rfl, hb⟩
    have X := Lib.hid (XP.below hb XP.lt)
    have R := Lib.hid (RP.below hb RP.lt)
    have Bw := Lib.hid (btE BP hb)
    clear hb XP RP BP
    obtain ⟨d0, d1, d2, d3, d4, d5, d6, d7⟩ := X.out.at.zero
    have f7 := X.out.fz 7
    have XP := X.out.set (e' := ⟨ino, m + 40960, u1, gi, 0, t, p, l⟩) 7 (.string l) rfl
    have RP : CardO (w5.setCell ⟨G5, 7, none⟩ (.string l)) (w.heap.size + 1) zeroC := R.out.other hne1
    have BP := Bw.out.setCell (p := ⟨G5, 7, none⟩) hlt5 (.string l)
    go_upto_region 10 with fail
    obtain ⟨w6, hw6⟩ : ∃ x, x = w5.setCell ⟨G5, 7, none⟩ (.string l) := ⟨_, rfl⟩
    rw [← hw6] at XP RP BP ⊢
    clear hw6 d0 d1 d2 d3 d4 d5 d6 d7 f7 X R Bw
    obtain ⟨x0, x1, x2, x3, x4, x5, x6, x7⟩ := XP.at.zero
    obtain ⟨d0, d1, d2, d3, d4, d5, d6, d7⟩ := RP.at.zero
    have f0 := RP.fz 0
    have f1 := RP.fz 1
    have f2 := RP.fz 2
    have f3 := RP.fz 3
    have f4 := RP.fz 4
    have f5 := RP.fz 5
    have f6 := RP.fz 6
    have f7 := RP.fz 7
    have R9 := RP.put ⟨ino, m + 40960, u1, gi, 0, t, p, l⟩
    have B9 := below_putOC (g := w.heap.size + 1) BP (by omega) ⟨ino, m + 40960, u1, gi, 0, t, p, l⟩
    simp only [putOC] at R9 B9
    go_wp2_with fail
    refine bodyPost_ret (res_OC1 rfl _ rfl R9) rfl ?_
    exact ⟨rfl, B9⟩
set_option maxHeartbeats 3200000 in
set_option maxRecDepth 8000 in
theorem cardOf_fil (k : Int) (p l : ByteArray) (m u1 gi t : Int) (us gr b : ByteArray) (ino : Int) (w : World) (hk1 : ¬ k = 1) (hk2 : ¬ k = 2) (hp : p.size ≤ 4194304) (hb : b.size ≤ 4194304) (hm0 : 0 ≤ m) (hm1 : m ≤ 4095) :
    Calls Tryz.prog 69 #[.agg #[.int .i64 k, .string p, .string l, .int .i64 m, .int .i64 u1, .int .i64 gi, .int .i64 t, .string us, .string gr, .string b], .int .i64 ino] w fun e w' => e = .returned (.agg #[.int .i64 ino, .int .i64 (m + 32768), .int .i64 u1, .int .i64 gi, .int .i64 0, .int .i64 t, .string p, .string b]) ∧ Below w.heap.size w w' := by
  have q1 : (k == 1) = false := by simpa using hk1
  have q2 : (k == 2) = false := by simpa using hk2
  have HC := Lib.hid (fun w => clone_any p w (by omega))
  have HD := Lib.hid (fun w => clone_any b w (by omega))
  go_enter Tryz.func69, Tryz.ntmps69
  go_upto_region 1 with fail
  generalize hw1 : World.alloc (World.alloc w _) _ = w1
  have EO : Hid (EntO w1 w.heap.size ⟨k, p, l, m, u1, gi, t, us, gr, b⟩) := Lib.hid (by rw [← hw1]; exact (EntO.new w ⟨k, p, l, m, u1, gi, t, us, gr, b⟩).below (B := w.heap.size + 1) ((Below.refl _ _).alloc (by simp) _) (by omega))
  have RO : Hid (CardO w1 (w.heap.size + 1) zeroC) := Lib.hid (by rw [← hw1]; exact CardO.newAt (w.alloc (.cells (Ent.cells ⟨k, p, l, m, u1, gi, t, us, gr, b⟩).toArray 41)) zeroC _ (by simp))
  have B0 : Hid (Below w.heap.size w w1) := Lib.hid (by rw [← hw1]; exact ((Below.refl _ _).alloc (Nat.le_refl _) _).alloc (by simp) _)
  have hs1 : w1.heap.size = w.heap.size + 2 := by rw [← hw1]; simp
  clear hw1
  have KC : Hid (∀ w', Below w1.heap.size w1 w' → w'.cell? ⟨w.heap.size, 1, none⟩ = some (.string p) ∧ w'.cell? ⟨w.heap.size, 3, none⟩ = some (.int .i64 m) ∧ w'.cell? ⟨w.heap.size, 4, none⟩ = some (.int .i64 u1) ∧ w'.cell? ⟨w.heap.size, 5, none⟩ = some (.int .i64 gi) ∧ w'.cell? ⟨w.heap.size, 6, none⟩ = some (.int .i64 t)) := Lib.hid (fun w' hb => by
    obtain ⟨d0, d1, d2, d3, d4, d5, d6, d7, d8, d9⟩ := (EO.out.below hb (by omega)).at.zero
    exact ⟨d1, d3, d4, d5, d6⟩)
  refine wp_region_cut 14 (by kernel_rfl) (fun w' => Below w1.heap.size w1 w') (fun x y => Below x.heap.size x y) (vBxG 5 44 w1.heap.size #[.int .i64 0, .int .i64 0, .int .i64 0, .int .i64 0, .int .i64 0, .int .i64 0, .string ⟨#[]⟩, .string ⟨#[]⟩] (fun d v => match d with | 6 => v = .int .i64 ino | 7 => v = .pointer (some ⟨w.heap.size, 3, none⟩) | 8 => v = .int .i64 m | 9 => v = .pointer (some ⟨w.heap.size, 4, none⟩) | 10 => v = .int .i64 u1 | 11 => v = .pointer (some ⟨w.heap.size, 5, none⟩) | 12 => v = .int .i64 gi | 13 => v = .pointer (some ⟨w.heap.size, 6, none⟩) | 14 => v = .int .i64 t | 15 => v = .pointer (some ⟨w.heap.size, 1, none⟩) | 16 => v = .string p | 17 => v = .string p | 18 => v = .agg #[.int .i64 ino, .int .i64 m, .int .i64 u1, .int .i64 gi, .int .i64 0, .int .i64 t, .string p, .string ⟨#[]⟩] | _ => True)) (by kernel_rfl) (by kernel_rfl) ((Below.refl _ _).drew) (vBxG_keep _ _ _ _ _) (by simp) ?hops ?hend
  case hops =>
    simp only [List.take_succ_cons, List.take_zero, List.forall_mem_cons]
    refine ⟨?o6, ?o7, ?o8, ?o9, ?o10, ?o11, ?o12, ?o13, ?o14, ?o15, ?o16, ?o17, ?o18, ?o5, fun _ h => by cases h⟩
    case o6 =>
      intro Q a w2 hC hV hI
      have e1 : a.eval (.tmp 1) = .int .i64 ino := (hI 1 (by simp [Op.operands]) (by kernel_rfl)).trans rfl
      have f1 : a.tmps.getD 1 undef = .int .i64 ino := e1
      have g1 : a.tmps[1]?.getD undef = .int .i64 ino := by rw [← Array.getD_eq_getD_getElem?]; exact e1
      refine op_val (.int .i64 ino) ?_ hC (Below.refl _ _) (by intro d hd; cases hd; exact rfl)
      (clear hV hI hC; go_simp <;> (first | rfl | simp | (rw [IntKind.wrap_i64]; omega)))
    case o7 =>
      intro Q a w2 hC hV hI
      have e2 : a.eval (.tmp 2) = .pointer (some ⟨w.heap.size, 0, none⟩) := (hI 2 (by simp [Op.operands]) (by kernel_rfl)).trans rfl
      have f2 : a.tmps.getD 2 undef = .pointer (some ⟨w.heap.size, 0, none⟩) := e2
      have g2 : a.tmps[2]?.getD undef = .pointer (some ⟨w.heap.size, 0, none⟩) := by rw [← Array.getD_eq_getD_getElem?]; exact e2
      refine op_val (.pointer (some ⟨w.heap.size, 3, none⟩)) ?_ hC (Below.refl _ _) (by intro d hd; cases hd; exact rfl)
      (clear hV hI hC; go_simp <;> (first | rfl | simp | (rw [IntKind.wrap_i64]; omega)))
    case o8 =>
      intro Q a w2 hC hV hI
      have e7 : a.eval (.tmp 7) = .pointer (some ⟨w.heap.size, 3, none⟩) := hV 7 (by simp [Op.operands]) (by kernel_rfl)
      have f7 : a.tmps.getD 7 undef = .pointer (some ⟨w.heap.size, 3, none⟩) := e7
      have g7 : a.tmps[7]?.getD undef = .pointer (some ⟨w.heap.size, 3, none⟩) := by rw [← Array.getD_eq_getD_getElem?]; exact e7
      have hK := KC.out w2 hC
      refine op_val (.int .i64 m) ?_ hC (Below.refl _ _) (by intro d hd; cases hd; exact rfl)
      (clear hV hI hC; go_simp <;> (first | rfl | simp | (rw [IntKind.wrap_i64]; omega)))
    case o9 =>
      intro Q a w2 hC hV hI
      have e2 : a.eval (.tmp 2) = .pointer (some ⟨w.heap.size, 0, none⟩) := (hI 2 (by simp [Op.operands]) (by kernel_rfl)).trans rfl
      have f2 : a.tmps.getD 2 undef = .pointer (some ⟨w.heap.size, 0, none⟩) := e2
      have g2 : a.tmps[2]?.getD undef = .pointer (some ⟨w.heap.size, 0, none⟩) := by rw [← Array.getD_eq_getD_getElem?]; exact e2
      refine op_val (.pointer (some ⟨w.heap.size, 4, none⟩)) ?_ hC (Below.refl _ _) (by intro d hd; cases hd; exact rfl)
      (clear hV hI hC; go_simp <;> (first | rfl | simp | (rw [IntKind.wrap_i64]; omega)))
    case o10 =>
      intro Q a w2 hC hV hI
      have e9 : a.eval (.tmp 9) = .pointer (some ⟨w.heap.size, 4, none⟩) := hV 9 (by simp [Op.operands]) (by kernel_rfl)
      have f9 : a.tmps.getD 9 undef = .pointer (some ⟨w.heap.size, 4, none⟩) := e9
      have g9 : a.tmps[9]?.getD undef = .pointer (some ⟨w.heap.size, 4, none⟩) := by rw [← Array.getD_eq_getD_getElem?]; exact e9
      have hK := KC.out w2 hC
      refine op_val (.int .i64 u1) ?_ hC (Below.refl _ _) (by intro d hd; cases hd; exact rfl)
      (clear hV hI hC; go_simp <;> (first | rfl | simp | (rw [IntKind.wrap_i64]; omega)))
    case o11 =>
      intro Q a w2 hC hV hI
      have e2 : a.eval (.tmp 2) = .pointer (some ⟨w.heap.size, 0, none⟩) := (hI 2 (by simp [Op.operands]) (by kernel_rfl)).trans rfl
      have f2 : a.tmps.getD 2 undef = .pointer (some ⟨w.heap.size, 0, none⟩) := e2
      have g2 : a.tmps[2]?.getD undef = .pointer (some ⟨w.heap.size, 0, none⟩) := by rw [← Array.getD_eq_getD_getElem?]; exact e2
      refine op_val (.pointer (some ⟨w.heap.size, 5, none⟩)) ?_ hC (Below.refl _ _) (by intro d hd; cases hd; exact rfl)
      (clear hV hI hC; go_simp <;> (first | rfl | simp | (rw [IntKind.wrap_i64]; omega)))
    case o12 =>
      intro Q a w2 hC hV hI
      have e11 : a.eval (.tmp 11) = .pointer (some ⟨w.heap.size, 5, none⟩) := hV 11 (by simp [Op.operands]) (by kernel_rfl)
      have f11 : a.tmps.getD 11 undef = .pointer (some ⟨w.heap.size, 5, none⟩) := e11
      have g11 : a.tmps[11]?.getD undef = .pointer (some ⟨w.heap.size, 5, none⟩) := by rw [← Array.getD_eq_getD_getElem?]; exact e11
      have hK := KC.out w2 hC
      refine op_val (.int .i64 gi) ?_ hC (Below.refl _ _) (by intro d hd; cases hd; exact rfl)
      (clear hV hI hC; go_simp <;> (first | rfl | simp | (rw [IntKind.wrap_i64]; omega)))
    case o13 =>
      intro Q a w2 hC hV hI
      have e2 : a.eval (.tmp 2) = .pointer (some ⟨w.heap.size, 0, none⟩) := (hI 2 (by simp [Op.operands]) (by kernel_rfl)).trans rfl
      have f2 : a.tmps.getD 2 undef = .pointer (some ⟨w.heap.size, 0, none⟩) := e2
      have g2 : a.tmps[2]?.getD undef = .pointer (some ⟨w.heap.size, 0, none⟩) := by rw [← Array.getD_eq_getD_getElem?]; exact e2
      refine op_val (.pointer (some ⟨w.heap.size, 6, none⟩)) ?_ hC (Below.refl _ _) (by intro d hd; cases hd; exact rfl)
      (clear hV hI hC; go_simp <;> (first | rfl | simp | (rw [IntKind.wrap_i64]; omega)))
    case o14 =>
      intro Q a w2 hC hV hI
      have e13 : a.eval (.tmp 13) = .pointer (some ⟨w.heap.size, 6, none⟩) := hV 13 (by simp [Op.operands]) (by kernel_rfl)
      have f13 : a.tmps.getD 13 undef = .pointer (some ⟨w.heap.size, 6, none⟩) := e13
      have g13 : a.tmps[13]?.getD undef = .pointer (some ⟨w.heap.size, 6, none⟩) := by rw [← Array.getD_eq_getD_getElem?]; exact e13
      have hK := KC.out w2 hC
      refine op_val (.int .i64 t) ?_ hC (Below.refl _ _) (by intro d hd; cases hd; exact rfl)
      (clear hV hI hC; go_simp <;> (first | rfl | simp | (rw [IntKind.wrap_i64]; omega)))
    case o15 =>
      intro Q a w2 hC hV hI
      have e2 : a.eval (.tmp 2) = .pointer (some ⟨w.heap.size, 0, none⟩) := (hI 2 (by simp [Op.operands]) (by kernel_rfl)).trans rfl
      have f2 : a.tmps.getD 2 undef = .pointer (some ⟨w.heap.size, 0, none⟩) := e2
      have g2 : a.tmps[2]?.getD undef = .pointer (some ⟨w.heap.size, 0, none⟩) := by rw [← Array.getD_eq_getD_getElem?]; exact e2
      refine op_val (.pointer (some ⟨w.heap.size, 1, none⟩)) ?_ hC (Below.refl _ _) (by intro d hd; cases hd; exact rfl)
      (clear hV hI hC; go_simp <;> (first | rfl | simp | (rw [IntKind.wrap_i64]; omega)))
    case o16 =>
      intro Q a w2 hC hV hI
      have e15 : a.eval (.tmp 15) = .pointer (some ⟨w.heap.size, 1, none⟩) := hV 15 (by simp [Op.operands]) (by kernel_rfl)
      have f15 : a.tmps.getD 15 undef = .pointer (some ⟨w.heap.size, 1, none⟩) := e15
      have g15 : a.tmps[15]?.getD undef = .pointer (some ⟨w.heap.size, 1, none⟩) := by rw [← Array.getD_eq_getD_getElem?]; exact e15
      have hK := KC.out w2 hC
      refine op_val (.string p) ?_ hC (Below.refl _ _) (by intro d hd; cases hd; exact rfl)
      (clear hV hI hC; go_simp <;> (first | rfl | simp | (rw [IntKind.wrap_i64]; omega)))
    case o17 =>
      intro Q a w2 hC hV hI
      have e16 : a.eval (.tmp 16) = .string p := hV 16 (by simp [Op.operands, Call.operands]) (by kernel_rfl)
      have f16 : a.tmps.getD 16 undef = .string p := e16
      have g16 : a.tmps[16]?.getD undef = .string p := by rw [← Array.getD_eq_getD_getElem?]; exact e16
      refine op_call (f := 67) (args := #[.string p]) (R := fun v y => v = .string p ∧ Below w2.heap.size w2 y) ?_ ((HC.out w2).mono ?_) ?_
      · (clear hV hI hC; go_simp <;> (first | rfl | simp | (rw [IntKind.wrap_i64]; omega)))
      · rintro e y ⟨rfl, hb⟩; exact ⟨_, rfl, rfl, hb⟩
      · rintro v y ⟨rfl, hb⟩; exact ⟨hC.trans (hb.mono hC.size), hb, by intro d hd; cases hd; exact rfl⟩
    case o18 =>
      intro Q a w2 hC hV hI
      have e6 : a.eval (.tmp 6) = .int .i64 ino := hV 6 (by simp [Op.operands]) (by kernel_rfl)
      have f6 : a.tmps.getD 6 undef = .int .i64 ino := e6
      have g6 : a.tmps[6]?.getD undef = .int .i64 ino := by rw [← Array.getD_eq_getD_getElem?]; exact e6
      have e8 : a.eval (.tmp 8) = .int .i64 m := hV 8 (by simp [Op.operands]) (by kernel_rfl)
      have f8 : a.tmps.getD 8 undef = .int .i64 m := e8
      have g8 : a.tmps[8]?.getD undef = .int .i64 m := by rw [← Array.getD_eq_getD_getElem?]; exact e8
      have e10 : a.eval (.tmp 10) = .int .i64 u1 := hV 10 (by simp [Op.operands]) (by kernel_rfl)
      have f10 : a.tmps.getD 10 undef = .int .i64 u1 := e10
      have g10 : a.tmps[10]?.getD undef = .int .i64 u1 := by rw [← Array.getD_eq_getD_getElem?]; exact e10
      have e12 : a.eval (.tmp 12) = .int .i64 gi := hV 12 (by simp [Op.operands]) (by kernel_rfl)
      have f12 : a.tmps.getD 12 undef = .int .i64 gi := e12
      have g12 : a.tmps[12]?.getD undef = .int .i64 gi := by rw [← Array.getD_eq_getD_getElem?]; exact e12
      have e14 : a.eval (.tmp 14) = .int .i64 t := hV 14 (by simp [Op.operands]) (by kernel_rfl)
      have f14 : a.tmps.getD 14 undef = .int .i64 t := e14
      have g14 : a.tmps[14]?.getD undef = .int .i64 t := by rw [← Array.getD_eq_getD_getElem?]; exact e14
      have e17 : a.eval (.tmp 17) = .string p := hV 17 (by simp [Op.operands]) (by kernel_rfl)
      have f17 : a.tmps.getD 17 undef = .string p := e17
      have g17 : a.tmps[17]?.getD undef = .string p := by rw [← Array.getD_eq_getD_getElem?]; exact e17
      refine op_val (.agg #[.int .i64 ino, .int .i64 m, .int .i64 u1, .int .i64 gi, .int .i64 0, .int .i64 t, .string p, .string ⟨#[]⟩]) ?_ hC (Below.refl _ _) (by intro d hd; cases hd; exact rfl)
      (clear hV hI hC; go_simp <;> (first | rfl | simp | (rw [IntKind.wrap_i64]; omega)))
    case o5 =>
      intro Q a w2 hC hV hI
      refine op_val (.pointer (some ⟨w2.heap.size, 0, none⟩)) (w' := w2.alloc (.cells #[.int .i64 0, .int .i64 0, .int .i64 0, .int .i64 0, .int .i64 0, .int .i64 0, .string ⟨#[]⟩, .string ⟨#[]⟩] 44)) ?_ (hC.alloc hC.size _) ((Below.refl _ _).alloc (Nat.le_refl _) _) ?_
      · (clear hV hI hC; go_simp <;> (first | rfl | simp | (rw [IntKind.wrap_i64]; omega)))
      · intro d hd; cases hd; exact ⟨w2.heap.size, rfl, hC.size, heap_lastG _ _⟩
  case hend =>
    intro f w2 hC hall
    simp only [List.take_succ_cons, List.take_zero, List.drop_succ_cons, List.drop_zero] at hall ⊢
    simp only [List.forall_mem_cons] at hall
    obtain ⟨h6, h7, h8, h9, h10, h11, h12, h13, h14, h15, h16, h17, h18, h5, _⟩ := hall
    replace h6 : f 6 = .int .i64 ino := h6 6 rfl
    replace h7 : f 7 = .pointer (some ⟨w.heap.size, 3, none⟩) := h7 7 rfl
    replace h8 : f 8 = .int .i64 m := h8 8 rfl
    replace h9 : f 9 = .pointer (some ⟨w.heap.size, 4, none⟩) := h9 9 rfl
    replace h10 : f 10 = .int .i64 u1 := h10 10 rfl
    replace h11 : f 11 = .pointer (some ⟨w.heap.size, 5, none⟩) := h11 11 rfl
    replace h12 : f 12 = .int .i64 gi := h12 12 rfl
    replace h13 : f 13 = .pointer (some ⟨w.heap.size, 6, none⟩) := h13 13 rfl
    replace h14 : f 14 = .int .i64 t := h14 14 rfl
    replace h15 : f 15 = .pointer (some ⟨w.heap.size, 1, none⟩) := h15 15 rfl
    replace h16 : f 16 = .string p := h16 16 rfl
    replace h17 : f 17 = .string p := h17 17 rfl
    replace h18 : f 18 = .agg #[.int .i64 ino, .int .i64 m, .int .i64 u1, .int .i64 gi, .int .i64 0, .int .i64 t, .string p, .string ⟨#[]⟩] := h18 18 rfl
    obtain ⟨G5, hG5, hGB5, hGO5⟩ : ∃ G, f 5 = .pointer (some ⟨G, 0, none⟩) ∧ w1.heap.size ≤ G ∧ w2.heap[G]? = some (.cells #[.int .i64 0, .int .i64 0, .int .i64 0, .int .i64 0, .int .i64 0, .int .i64 0, .string ⟨#[]⟩, .string ⟨#[]⟩] 44 (0, 0)) := h5 5 rfl
    simp only [putAll, Act.put, List.setIfInBounds_toArray, List.set_cons_succ, List.set_cons_zero, h6, h7, h8, h9, h10, h11, h12, h13, h14, h15, h16, h17, h18, hG5]
    clear h6 h7 h8 h9 h10 h11 h12 h13 h14 h15 h16 h17 h18 hG5 h5
    clear KC
    replace EO := Lib.hid (EO.out.below hC (by omega))
    replace RO := Lib.hid (RO.out.below hC (by omega))
    have hB2 := btE B0.out (hC.mono (Nat.le_refl _))
    have XO : CardO w2 G5 zeroC := hGO5
    have hne0 : ¬ w.heap.size = G5 := by omega
    have hne1 : ¬ w.heap.size + 1 = G5 := by omega
    have hlt5 : w.heap.size ≤ G5 := by omega
    obtain ⟨d0, d1, d2, d3, d4, d5, d6, d7⟩ := XO.at.zero
    have f0 := XO.fz 0
    have f1 := XO.fz 1
    have f2 := XO.fz 2
    have f3 := XO.fz 3
    have f4 := XO.fz 4
    have f5 := XO.fz 5
    have f6 := XO.fz 6
    have f7 := XO.fz 7
    have XP := XO.put ⟨ino, m, u1, gi, 0, t, p, ⟨#[]⟩⟩
    have EP : EntO (putOC w2 G5 ⟨ino, m, u1, gi, 0, t, p, ⟨#[]⟩⟩) w.heap.size ⟨k, p, l, m, u1, gi, t, us, gr, b⟩ := (putOC_other hne0).trans EO.out
    have RP : CardO (putOC w2 G5 ⟨ino, m, u1, gi, 0, t, p, ⟨#[]⟩⟩) (w.heap.size + 1) zeroC := (putOC_other hne1).trans RO.out
    have BP := below_putOC (g := G5) hB2 hlt5 ⟨ino, m, u1, gi, 0, t, p, ⟨#[]⟩⟩
    simp only [putOC] at XP EP RP BP
    go_upto_region 2 with fail
    obtain ⟨w3, hw3⟩ : ∃ x, x = ((((((((w2.setCell ⟨G5, 0, none⟩ (.int .i64 ino)).setCell ⟨G5, 1, none⟩ (.int .i64 m)).setCell ⟨G5, 2, none⟩ (.int .i64 u1)).setCell ⟨G5, 3, none⟩ (.int .i64 gi)).setCell ⟨G5, 4, none⟩ (.int .i64 0)).setCell ⟨G5, 5, none⟩ (.int .i64 t)).setCell ⟨G5, 6, none⟩ (.string p)).setCell ⟨G5, 7, none⟩ (.string ⟨#[]⟩)) := ⟨_, rfl⟩
    rw [← hw3] at XP EP RP BP ⊢
    have X := Lib.hid XP
    have R := Lib.hid RP
    have Bw := Lib.hid BP
    obtain ⟨e0, e1, e2, e3, e4, e5, e6, e7, e8, e9⟩ := EP.at.zero
    clear XP RP BP hw3 d0 d1 d2 d3 d4 d5 d6 d7 f0 f1 f2 f3 f4 f5 f6 f7 XO hGO5 hB2 EO RO
    obtain ⟨d0, d1, d2, d3, d4, d5, d6, d7⟩ := X.out.at.zero
    have f1 := X.out.fz 1
    have XP := X.out.set (e' := ⟨ino, m + 32768, u1, gi, 0, t, p, ⟨#[]⟩⟩) 1 (.int .i64 (m + 32768)) rfl
    have RP : CardO (w3.setCell ⟨G5, 1, none⟩ (.int .i64 (m + 32768))) (w.heap.size + 1) zeroC := R.out.other hne1
    have EP2 : EntO (w3.setCell ⟨G5, 1, none⟩ (.int .i64 (m + 32768))) w.heap.size ⟨k, p, l, m, u1, gi, t, us, gr, b⟩ := EP.other hne0
    have BP := Bw.out.setCell (p := ⟨G5, 1, none⟩) hlt5 (.int .i64 (m + 32768))
    go_wp2_with fail
    obtain ⟨w4, hw4⟩ : ∃ x, x = w3.setCell ⟨G5, 1, none⟩ (.int .i64 (m + 32768)) := ⟨_, rfl⟩
    rw [← hw4] at XP RP BP EP2 ⊢
    clear hw4 EP2 e0 e1 e2 e3 e4 e5 e6 e7 e8 e9 d0 d1 d2 d3 d4 d5 d6 d7 f1 EP X R Bw
    refine (HD.out _).mono ?_
    rintro e w5 ⟨rfl, hb⟩
    have X := Lib.hid (XP.below hb XP.lt)
    have R := Lib.hid (RP.below hb RP.lt)
    have Bw := Lib.hid (btE BP hb)
    clear hb XP RP BP
    obtain ⟨d0, d1, d2, d3, d4, d5, d6, d7⟩ := X.out.at.zero
    have f7 := X.out.fz 7
    have XP := X.out.set (e' := ⟨ino, m + 32768, u1, gi, 0, t, p, b⟩) 7 (.string b) rfl
    have RP : CardO (w5.setCell ⟨G5, 7, none⟩ (.string b)) (w.heap.size + 1) zeroC := R.out.other hne1
    have BP := Bw.out.setCell (p := ⟨G5, 7, none⟩) hlt5 (.string b)
    go_upto_region 10 with fail
    obtain ⟨w6, hw6⟩ : ∃ x, x = w5.setCell ⟨G5, 7, none⟩ (.string b) := ⟨_, rfl⟩
    rw [← hw6] at XP RP BP ⊢
    clear hw6 d0 d1 d2 d3 d4 d5 d6 d7 f7 X R Bw
    obtain ⟨x0, x1, x2, x3, x4, x5, x6, x7⟩ := XP.at.zero
    obtain ⟨d0, d1, d2, d3, d4, d5, d6, d7⟩ := RP.at.zero
    have f0 := RP.fz 0
    have f1 := RP.fz 1
    have f2 := RP.fz 2
    have f3 := RP.fz 3
    have f4 := RP.fz 4
    have f5 := RP.fz 5
    have f6 := RP.fz 6
    have f7 := RP.fz 7
    have R9 := RP.put ⟨ino, m + 32768, u1, gi, 0, t, p, b⟩
    have B9 := below_putOC (g := w.heap.size + 1) BP (by omega) ⟨ino, m + 32768, u1, gi, 0, t, p, b⟩
    simp only [putOC] at R9 B9
    go_wp2_with fail
    refine bodyPost_ret (res_OC1 rfl _ rfl R9) rfl ?_
    exact ⟨rfl, B9⟩
/-- The card of an entry but for its count. -/
def cardOfv (ino : Int) (e : Ent) : Card := ⟨ino, e.mode + modev e.kind, e.uid, e.gid, 0, e.time, e.path, if e.kind = 1 then ⟨#[]⟩ else datav e⟩
theorem cardOf_impl (e : Ent) (ino : Int) (w : World) (hz : esz e ≤ 4194304) (hm0 : 0 ≤ e.mode) (hm1 : e.mode ≤ 4095) :
    Calls Tryz.prog 69 #[.agg e.cells.toArray, .int .i64 ino] w fun r w' => r = .returned (.agg (cardOfv ino e).cells.toArray) ∧ Below w.heap.size w w' := by
  obtain ⟨k, p, l, m, u, g, t, us, gr, b⟩ := e
  obtain ⟨hp, hl, _, _, hb⟩ := small_parts hz
  by_cases h1 : k = 1
  · subst h1
    exact cardOf_dir p l m u g t us gr b ino w hp hm0 hm1
  · by_cases h2 : k = 2
    · subst h2
      exact cardOf_sym p l m u g t us gr b ino w hp hl hm0 hm1
    · have := cardOf_fil k p l m u g t us gr b ino w h1 h2 hp hb hm0 hm1
      simpa [Ent.cells, Card.cells, cardOfv, modev, datav, h1, h2] using this
end Go.Proofs.YtancidbbkoeokaaGreat

/- ListOk by the kinds of the entries so far: plain mathematics. -/
namespace Go.Proofs.YtancidbbkoeokaaGreat
open Go.RowKit

/-- The kind of the first entry with a path. -/
def kindOf (L : List Ent) (p : ByteArray) : Option Int := (L.find? fun e => decide (e.path = p)).map Ent.kind
theorem findFrom_kind (L : List Ent) (p : ByteArray) (i : Nat) : (kindOf L p = none ∧ findFrom L p i = -1) ∨ ∃ (a : Nat) (e : Ent), kindOf L p = some e.kind ∧ findFrom L p i = ((i + a : Nat) : Int) ∧ L[a]? = some e ∧ e.path = p := by
  induction L generalizing i with
  | nil => exact .inl ⟨rfl, rfl⟩
  | cons e L ih =>
    rw [findFrom]
    by_cases h : e.path = p
    · exact .inr ⟨0, e, by simp [kindOf, h], by simp [h], rfl, h⟩
    · rw [if_neg h]
      have hk : kindOf (e :: L) p = kindOf L p := by simp [kindOf, h]
      rw [hk]
      rcases ih (i + 1) with h1 | ⟨a, e', h0, h1, h2, h3⟩
      · exact .inl h1
      · exact .inr ⟨a + 1, e', h0, by rw [h1]; congr 1; omega, by simpa using h2, h3⟩
theorem find_kind (L : List Ent) (p : ByteArray) : (kindOf L p = none ∧ findv L p = -1) ∨ ∃ (a : Nat) (e : Ent), kindOf L p = some e.kind ∧ findv L p = (a : Int) ∧ L[a]? = some e ∧ e.path = p := by
  rcases findFrom_kind L p 0 with h | ⟨a, e, h0, h1, h2, h3⟩
  · exact .inl h
  · exact .inr ⟨a, e, h0, by rw [findv, h1]; simp, h2, h3⟩
theorem fileAt_kind (L : List Ent) (p : ByteArray) : fileAt L p = decide (kindOf L p = some 0) := by
  rcases find_kind L p with ⟨h, h1⟩ | ⟨a, e, h, h1, h2, _⟩
  · rw [fileAt_none h1, h]; simp
  · rw [fileAt_some h1 h2, h]; simp
theorem findFrom_app (L M : List Ent) (p : ByteArray) (i : Nat) : findFrom (L ++ M) p i = if kindOf L p = none then findFrom M p (i + L.length) else findFrom L p i := by
  induction L generalizing i with
  | nil => simp [kindOf]
  | cons e L ih =>
    rw [List.cons_append, findFrom]
    by_cases h : e.path = p
    · simp [kindOf, h, findFrom]
    · have hk : kindOf (e :: L) p = kindOf L p := by simp [kindOf, h]
      rw [if_neg h, ih, hk]
      simp only [List.length_cons, findFrom, if_neg h]
      rw [show i + 1 + L.length = i + (L.length + 1) from by omega]
theorem find_self {L : List Ent} {i : Nat} {e : Ent} (he : L[i]? = some e) : findv L e.path = (i : Int) ↔ kindOf (L.take i) e.path = none := by
  have hlt : i < L.length := (List.getElem?_eq_some_iff.1 he).1
  have hL : L = L.take i ++ (e :: L.drop (i + 1)) := by
    have h1 := (List.getElem?_eq_some_iff.1 he).2
    conv => lhs; rw [← List.take_append_drop i L]
    rw [List.drop_eq_getElem_cons hlt, h1]
  have hl : (L.take i).length = i := by simp; omega
  constructor
  · intro h
    cases hk : kindOf (L.take i) e.path with
    | none => rfl
    | some c =>
      rw [findv, hL, findFrom_app, if_neg (by rw [hk]; simp)] at h
      rcases findFrom_kind (L.take i) e.path 0 with ⟨h0, _⟩ | ⟨a, e', _, h1, h2, _⟩
      · rw [h0] at hk; cases hk
      · have := (List.getElem?_eq_some_iff.1 h2).1
        rw [h1] at h
        omega
  · intro h
    rw [findv]
    conv => lhs; rw [hL]
    rw [findFrom_app, if_pos h, findFrom, if_pos rfl, hl]
    simp
theorem entAtOk_kind {L : List Ent} {i : Nat} {e : Ent} (he : L[i]? = some e) : entAtOk L i e = (entOkv e && decide (kindOf (L.take i) e.path = none) && (if e.kind = 3 then decide (kindOf (L.take i) e.link = some 0) else true)) := by
  rw [entAtOk, fileAt_kind]
  congr 2
  rw [decide_eq_decide]
  exact find_self he
theorem kindOf_snoc {L : List Ent} {i : Nat} {e : Ent} (he : L[i]? = some e) (hk : kindOf (L.take i) e.path = none) : kindOf (L.take (i + 1)) = putM (kindOf (L.take i)) e.path e.kind := by
  have hlt : i < L.length := (List.getElem?_eq_some_iff.1 he).1
  have h1 := (List.getElem?_eq_some_iff.1 he).2
  funext p
  rw [List.take_succ_eq_append_getElem hlt, h1]
  simp only [kindOf, putM, List.find?_append] at hk ⊢
  by_cases h : p = e.path
  · subst h
    simp at hk
    have : List.find? (fun e' => decide (e'.path = e.path)) (List.take i L) = none := by
      rw [List.find?_eq_none]
      intro x hx
      simpa using hk x hx
    simp [this]
  · have h' : ¬ e.path = p := fun x => h x.symm
    simp [h, h']
theorem kindOf_zero (L : List Ent) : kindOf (L.take 0) = fun _ => none := by
  funext p; simp [kindOf]
theorem entOk_kind (e : Ent) (h : entOkv e = true) : -9223372036854775808 ≤ e.kind ∧ e.kind ≤ 9223372036854775807 := by
  simp only [entOkv, Bool.and_eq_true] at h
  have h2 := h.2
  unfold kindOk at h2
  split at h2
  · omega
  · split at h2
    · omega
    · split at h2
      · omega
      · split at h2
        · omega
        · cases h2
end Go.Proofs.YtancidbbkoeokaaGreat

/- Contract of impl.ListOk. -/
namespace Go.Proofs.YtancidbbkoeokaaGreat
open Go.ChangeShapes Go.WideShapes Go.ChangeAt Go.RowKit Go.Deep Go.Maps

theorem listOk_long {L : List Ent} (h : 30 < L.length) : listOkv L = false := by
  rw [listOkv, decide_eq_false (by omega)]; simp
set_option maxHeartbeats 1600000 in
theorem listOk_impl (L : List Ent) (n g cap : Nat) (w : World) (hn : n = L.length) (hm : n ≤ 4194304) (hg : g < w.heap.size) (hsm : SmallL L) (h1 : RowE w g L) :
    Calls Tryz.prog 43 #[.slice (some ⟨g, 0, none⟩) n cap] w fun e w' => e = .returned (.bool (listOkv L)) ∧ Below w.heap.size w w' := by
  have H1 := Lib.hid h1
  have HG : Hid (∀ i, i < n → ∃ e, L[i]? = some e ∧ esz e ≤ 4194304) := Lib.hid (fun i hi => by obtain ⟨e, he⟩ := getE' (L := L) (i := i) (by omega); exact ⟨e, he, hsm.get he⟩)
  have HBad : Hid (∀ i e, L[i]? = some e → entAtOk L i e = false → listOkv L = false) := Lib.hid (fun i e he hk => listOk_bad he hk)
  have HDone : Hid (OksTo L n → n ≤ 30 → listOkv L = true) := Lib.hid (by rw [hn]; intro h h2; rw [listOk_done h]; simpa using h2)
  have HLong : Hid (30 < n → listOkv L = false) := Lib.hid (by rw [hn]; exact listOk_long)
  generalize listOkv L = r at HBad HDone HLong
  clear h1 hn hsm
  by_cases h30 : 30 < n
  · have h30' : (30 : Int) < (n : Int) := by omega
    have HX := Lib.hid (HLong.out h30)
    go_enter Tryz.func43, Tryz.ntmps43
    go_wp2_with fail
    go_ret
    exact ⟨ret_bool HX.out.symm, Below.refl _ _⟩
  have h30' : ¬ (30 : Int) < (n : Int) := by omega
  have hmm := @run_makeMap Tryz.prog
  go_enter Tryz.func43, Tryz.ntmps43
  go_wp2_with fail
  go_loopw [5, 6, 7, 8, 9, 16] (fun _ _ _ _ _ u wr => ∃ i : Nat, u = .int .i64 i ∧ i ≤ n ∧ OksTo L i ∧ MapAt wr w.heap.size i (kindOf (L.take i)) ∧ Below w.heap.size w wr) (fun _ _ _ _ _ u _ => n - (intOf u).toNat)
  case atStart => exact ⟨0, rfl, Nat.zero_le _, fun j hj => by omega, by rw [kindOf_zero]; exact mapAt_made w, (Below.refl _ _).alloc (Nat.le_refl _) _⟩
  case round =>
    obtain ⟨i, rfl, hi, hr, hmap, hb⟩ := hrel
    have HR := Lib.hid hr
    have B := Lib.hid hb
    have HMp := Lib.hid hmap
    have zm := hmap.lt
    clear hr hb hmap hmm
    by_cases hlt : i < n
    · have hlt2 : (i : Int) < (n : Int) := by omega
      obtain ⟨e, he, hz⟩ := HG.out i hlt
      have R := Lib.hid (H1.out.below B.out hg)
      obtain ⟨c0, c1, c2, c3, c4, c5, c6, c7, c8, c9⟩ := R.out.ten he
      have HBi := Lib.hid (HBad.out i e he)
      have HSi := Lib.hid (fun hk => HR.out.step he hk)
      have HA := Lib.hid (entAtOk_kind he)
      have HK := Lib.hid (fun h => kindOf_snoc he h)
      clear he HBad HG HR
      have hsz := small_parts hz
      generalize kindOf (L.take i) = M at HMp HA HK
      obtain ⟨k, p, l, m, u, g0, t, us, gr, b⟩ := e
      have HO := Lib.hid (fun w => entryOk_impl k p l m u g0 t us gr b w hsz.1 hsz.2.1 hsz.2.2.1 hsz.2.2.2.1)
      dsimp only at hsz
      have kp : p.size ≤ maxLen := by have := hsz.1; simp only [maxLen]; omega
      have kl : l.size ≤ maxLen := by have := hsz.2.1; simp only [maxLen]; omega
      have HKd := Lib.hid (entOk_kind ⟨k, p, l, m, u, g0, t, us, gr, b⟩)
      generalize entAtOk L i ⟨k, p, l, m, u, g0, t, us, gr, b⟩ = ra at HA HBi HSi
      generalize entOkv ⟨k, p, l, m, u, g0, t, us, gr, b⟩ = b1 at HA HO HKd
      dsimp only at HA HK HKd
      clear hsz hz
      have zr : g < wr.heap.size := by have := B.out.size; omega
      obtain ⟨D, ho, hD⟩ := HMp.out
      have OM := Lib.hid ho
      have HD := Lib.hid hD
      clear ho hD HMp
      have HP := Lib.hid (HD.out.2 p).1
      have HLk := Lib.hid (HD.out.2 l)
      cases hp : M p with
      | some x =>
        have hh : Maps.has D (keyS p) = true := by rw [HP.out, hp]; rfl
        have HX : Hid (r = false) := Lib.hid (HBi.out (by rw [HA.out, hp]; simp))
        clear HA HK HP HLk HBi HSi HO HD hp
        go_wp2_with (at_lookup; refine wpList_lookup_own_ok_int _ rfl _ _ 90 rfl 9 3 .i64 lawS Tryz.underlying90 Tryz.underlying3 (zeroN _) w.heap.size i D rfl (OM.out.alloc _) _ _ rfl (key_of kp) ?_; intro c _ _)
        go_ret
        exact ⟨ret_bool HX.out.symm, B.out.alloc B.out.size _⟩
      | none =>
        have hh : Maps.has D (keyS p) = false := by rw [HP.out, hp]; rfl
        have HN := Lib.hid (HK.out hp)
        have HA2 : Hid (ra = (b1 && (if k = 3 then decide (M l = some 0) else true))) := Lib.hid (by rw [HA.out, hp]; simp)
        clear HA HK HP hp
        go_wp2_with (at_lookup; refine wpList_lookup_own_ok_int _ rfl _ _ 90 rfl 9 3 .i64 lawS Tryz.underlying90 Tryz.underlying3 (zeroN _) w.heap.size i D rfl (OM.out.alloc _) _ _ rfl (key_of kp) ?_; intro c _ _)
        refine (HO.out _).mono ?_
        rintro e w1 ⟨rfl, hb⟩
        have O1 := Lib.hid (ownsMap_below (OM.out.alloc _) hb)
        obtain ⟨k1, bb, z1⟩ := one_new (e1 := ⟨k, p, l, m, u, g0, t, us, gr, b⟩) hb
        have E1 := Lib.hid k1
        have B1 := Lib.hid (btE B.out bb)
        clear hb k1 bb c0 c1 c2 c3 c4 c5 c6 c7 c8 c9 R B HO OM hh
        obtain ⟨c0, c1, c2, c3, c4, c5, c6, c7, c8, c9⟩ := E1.out.zero
        have hsz1 := B1.out.size
        cases b1 with
        | false =>
          go_wp2_with fail
          go_ret
          exact ⟨ret_bool (HBi.out (by rw [HA2.out]; simp)).symm, B1.out⟩
        | true =>
          by_cases hk : k = 3
          · subst hk
            cases hl : M l with
            | none =>
              have hh : Maps.has D (keyS l) = false := by rw [HLk.out.1, hl]; rfl
              have HX : Hid (r = false) := Lib.hid (HBi.out (by rw [HA2.out, hl]; simp))
              clear HA2 HBi HSi HLk hl HN
              go_wp2_with (at_lookup; refine wpList_lookup_own_ok_int _ rfl _ _ 90 rfl 9 3 .i64 lawS Tryz.underlying90 Tryz.underlying3 (zeroN _) w.heap.size i D rfl O1.out _ _ rfl (key_of kl) ?_; intro c' _ _)
              go_ret
              exact ⟨ret_bool HX.out.symm, B1.out⟩
            | some x =>
              have hh : Maps.has D (keyS l) = true := by rw [HLk.out.1, hl]; rfl
              have HT := Lib.hid (HLk.out.2 x hl)
              by_cases hx : x = 0
              · subst hx
                have HS := Lib.hid (HSi.out (by rw [HA2.out, hl]; simp))
                clear HA2 HBi HSi HLk hl
                go_wp2_with (first | (at_lookup; refine wpList_lookup_own_ok_int _ rfl _ _ 90 rfl 9 3 .i64 lawS Tryz.underlying90 Tryz.underlying3 (zeroN _) w.heap.size i D rfl O1.out _ _ rfl (key_of kl) ?_; intro c' hat _; obtain rfl : c' = 0 := (by have := hat.symm.trans HT.out; simpa using this); clear hat) | (at_mapUpdate; refine wpList_mapUpdate_own _ rfl _ _ _ 90 rfl 9 3 lawS Tryz.underlying90 _ w.heap.size i D rfl O1.out (by simp only [maxLen]; omega) _ _ _ rfl rfl (key_of kp) _ [] (plainElem_int Tryz.underlying3 (by decide)) ?_; intro w2 hown2 hgrow2))
                have HM2 : Hid (MapAt w2 w.heap.size (i + 1) (kindOf (L.take (i + 1)))) := Lib.hid (by rw [HN.out]; exact ⟨_, hown2, HD.out.put p 3⟩)
                have B2 : Hid (Below w.heap.size w w2) := Lib.hid (B1.out.grown hgrow2 hsz1 (fun b hb => by cases hb; exact Nat.le_refl _))
                clear hown2 hgrow2 HN HT hh
                go_wp2_with fail
                go_roundw
                case rel => exact ⟨i + 1, by go_num, by omega, HS.out, HM2.out, B2.out⟩
                case measure => simp [intOf]; omega
              · have HX : Hid (r = false) := Lib.hid (HBi.out (by rw [HA2.out, hl]; simp [hx]))
                have hx2 : (x != 0) = true := by simpa using hx
                clear HA2 HBi HSi HLk hl HN hx
                go_wp2_with (at_lookup; refine wpList_lookup_own_ok_int _ rfl _ _ 90 rfl 9 3 .i64 lawS Tryz.underlying90 Tryz.underlying3 (zeroN _) w.heap.size i D rfl O1.out _ _ rfl (key_of kl) ?_; intro c' hat _; obtain rfl : c' = x := (by have := hat.symm.trans HT.out; simpa using this); clear hat)
                go_ret
                exact ⟨ret_bool HX.out.symm, B1.out⟩
          · have HS := Lib.hid (HSi.out (by rw [HA2.out]; simp [hk]))
            have hk2 : (k == 3) = false := by simpa using hk
            have hk3 : decide (k = 3) = false := by simpa using hk
            have hwk : (Lit.int .i64 k).wf = true := WalkArith.wf_i64 (HKd.out rfl)
            clear HA2 HBi HSi HLk hk
            go_wp2_with (first | (at_lookup; refine wpList_lookup_own_ok_int _ rfl _ _ 90 rfl 9 3 .i64 lawS Tryz.underlying90 Tryz.underlying3 (zeroN _) w.heap.size i D rfl O1.out _ _ rfl (key_of kl) ?_; intro c' _ _) | (at_mapUpdate; refine wpList_mapUpdate_own _ rfl _ _ _ 90 rfl 9 3 lawS Tryz.underlying90 _ w.heap.size i D rfl O1.out (by simp only [maxLen]; omega) _ _ _ rfl rfl (key_of kp) _ [] (plainElem_int Tryz.underlying3 hwk) ?_; intro w2 hown2 hgrow2))
            have HM2 : Hid (MapAt w2 w.heap.size (i + 1) (kindOf (L.take (i + 1)))) := Lib.hid (by rw [HN.out]; exact ⟨_, hown2, HD.out.put p k⟩)
            have B2 : Hid (Below w.heap.size w w2) := Lib.hid (B1.out.grown hgrow2 hsz1 (fun b hb => by cases hb; exact Nat.le_refl _))
            clear hown2 hgrow2 HN
            go_wp2_with fail
            go_roundw
            case rel => exact ⟨i + 1, by go_num, by omega, HS.out, HM2.out, B2.out⟩
            case measure => simp [intOf]; omega
    · obtain rfl : i = n := by omega
      have hlt2 : ¬ (i : Int) < (i : Int) := by omega
      have HFin := Lib.hid (HDone.out HR.out (by omega))
      go_wp2_with fail
      go_ret
      exact ⟨ret_bool HFin.out.symm, B.out⟩
end Go.Proofs.YtancidbbkoeokaaGreat

/- Contract of impl.CardsOf. -/
namespace Go.Proofs.YtancidbbkoeokaaGreat
open Go.ChangeShapes Go.WideShapes Go.ChangeAt Go.RowKit Go.Deep Go.Maps

theorem card_map_ne {w : World} {base b n : Nat} {v : Value} {L : List Card} {M : Int → Int} (o : OwnC w base v L) (c : CntAt w b n M) : some b ≠ v.ownBlock := by
  intro e
  obtain ⟨D, ⟨es, clock, hb, F, hs, rfl⟩, _⟩ := c
  obtain ⟨⟨_, h2⟩, g, cap, rfl⟩ := o
  rcases h2 with ⟨h0, _⟩ | ⟨g', cap', cur, hv, hg, hh, _⟩
  · cases h0
  · cases hv
    simp [Value.ownBlock] at e
    subst e
    rw [hb] at hh
    cases hh
/-- The cards without their counts. -/
def cardsP (L : List Ent) : Nat → List Card
  | 0 => []
  | n + 1 => cardsP L n ++ [cardOfv (inov L n (L.getD n entD)) (L.getD n entD)]
theorem cardsP_len (L : List Ent) (n : Nat) : (cardsP L n).length = n := by
  induction n with
  | zero => rfl
  | succ n ih => simp [cardsP, ih]
theorem cardsP_step {L : List Ent} {i : Nat} {e : Ent} (he : L[i]? = some e) : cardsP L (i + 1) = cardsP L i ++ [cardOfv (inov L i e) e] := by rw [cardsP, getD_of he]
theorem cardsP_get (L : List Ent) (n i : Nat) {e : Ent} (he : L[i]? = some e) (h : i < n) : (cardsP L n)[i]? = some (cardOfv (inov L i e) e) := by
  induction n with
  | zero => omega
  | succ n ih =>
    rw [cardsP]
    by_cases q : i = n
    · subst q
      rw [List.getElem?_append_right (by rw [cardsP_len]; omega), cardsP_len, getD_of he]
      simp
    · rw [List.getElem?_append_left (by rw [cardsP_len]; omega)]
      exact ih (by omega)
/-- The cards of which the first i have their counts. -/
def cardsQ (L : List Ent) (n i : Nat) : List Card := cardsTo L i ++ (cardsP L n).drop i
theorem cardsQ_len {L : List Ent} {n i : Nat} (h : i ≤ n) : (cardsQ L n i).length = n := by
  simp [cardsQ, cardsTo_len, cardsP_len]
  omega
theorem cardsQ_zero (L : List Ent) (n : Nat) : cardsQ L n 0 = cardsP L n := by simp [cardsQ, cardsTo]
theorem cardsQ_all (L : List Ent) (n : Nat) : cardsQ L n n = cardsTo L n := by
  rw [cardsQ, List.drop_eq_nil_of_le (by rw [cardsP_len]; omega), List.append_nil]
theorem cardsQ_at {L : List Ent} {n i : Nat} {e : Ent} (he : L[i]? = some e) (h : i < n) : cardsQ L n i = cardsTo L i ++ cardOfv (inov L i e) e :: (cardsP L n).drop (i + 1) := by
  have hlt : i < (cardsP L n).length := by rw [cardsP_len]; exact h
  have hg := cardsP_get L n i he h
  rw [List.getElem?_eq_getElem hlt] at hg
  rw [cardsQ, List.drop_eq_getElem_cons hlt, Option.some.inj hg]
def withCount (c : Card) (n : Int) : Card := ⟨c.Ino, c.Mode, c.Uid, c.Gid, n, c.Time, c.Path, c.Data⟩
theorem cardsQ_succ {L : List Ent} {n i : Nat} {e : Ent} (he : L[i]? = some e) : cardsQ L n (i + 1) = cardsTo L i ++ cardv L i e :: (cardsP L n).drop (i + 1) := by
  rw [cardsQ, cardsTo, getD_of he]
  simp
theorem valsC_setCount (A B : List Card) (c : Card) (n : Int) : (valsC (A ++ c :: B)).set (A.length * 8 + 4) (.int .i64 n) = valsC (A ++ withCount c n :: B) := by
  rw [valsC_app, valsC_app, List.set_append_right _ _ (by rw [valsC_len]; omega), valsC_len]
  congr 1
  rw [show A.length * 8 + 4 - A.length * 8 = 4 from by omega]
  rfl
theorem rowC_count {w : World} {base g cap : Nat} {A B : List Card} {c : Card} {n N : Nat} (hN : N = (A ++ c :: B).length) (h : OwnC w base (.slice (some ⟨g, 0, none⟩) N cap) (A ++ c :: B)) (hn : n = A.length) (x : Int) : OwnC (w.setCell ⟨g, n * 8 + 4, none⟩ (.int .i64 x)) base (.slice (some ⟨g, 0, none⟩) N cap) (A ++ withCount c x :: B) := by
  subst hN hn
  obtain ⟨ho, g', cap', hv⟩ := h
  cases hv
  have h1 := (World.ownsRow.stored ho (A.length * 8 + 4) (.int .i64 x)).1
  rw [valsC_setCount] at h1
  have hl : (A ++ withCount c x :: B).length = (A ++ c :: B).length := by simp
  exact ⟨by rw [hl]; exact h1, g, cap, by rw [hl]⟩
theorem count_put {L : List Ent} {i : Nat} {e : Ent} (he : L[i]? = some e) : putN (fun x => ((countTo L x i : Nat) : Int)) (inov L i e) ((countTo L (inov L i e) i : Nat) + 1) = fun x => ((countTo L x (i + 1) : Nat) : Int) := by
  funext y
  rw [countTo, inoAt_of he, putN]
  by_cases h : y = inov L i e
  · rw [if_pos h, if_pos h.symm, h]
    push_cast
    rfl
  · rw [if_neg h, if_neg (fun e => h e.symm)]
    simp
theorem card_full {L : List Ent} (hL : listOkv L = true) {i : Nat} {e : Ent} (he : L[i]? = some e) : cardv L i e = withCount (cardOfv (inov L i e) e) (if e.kind = 1 then 2 else (countTo L (inov L i e) L.length : Nat)) := by
  have hk := (entOk_facts (listOk_at hL he).1).2.2.2.2
  unfold cardv withCount cardOfv
  congr 1
  by_cases h1 : e.kind = 1
  · rw [if_pos h1]
    rcases kind_facts hk with h | h | h | h
    · omega
    · rw [datav, if_neg (by omega), ba_nil h.2.2]
    · omega
    · omega
  · rw [if_neg h1]
set_option maxHeartbeats 6400000 in
set_option maxRecDepth 8000 in
theorem cardsOf_impl (L : List Ent) (n g cap : Nat) (w : World) (hn : n = L.length) (hm : n ≤ 4194304) (hcap : n ≤ cap) (hg : g < w.heap.size) (hsm : SmallL L) (h1 : RowE w g L) :
    Calls Tryz.prog 44 #[.slice (some ⟨g, 0, none⟩) n cap] w fun e w' => ∃ v, e = .returned v ∧ OwnC w' w.heap.size v (cardsv L) ∧ Below w.heap.size w w' := by
  obtain ⟨i0, hi0, hz0, hz1, hz2⟩ := info_parts Tryz.infoC
  have H1 := Lib.hid h1
  have HK := Lib.hid (fun w (hg : g < w.heap.size) (h : RowE w g L) => listOk_impl L n g cap w hn hm hg hsm h)
  have HI := Lib.hid (fun (i : Nat) (e : Ent) w he (hg : g < w.heap.size) (h : RowE w g L) => ino_impl L i e n g cap w he hn hm hg h)
  have HV : Hid (cardsv L = if listOkv L then cardsTo L n else []) := Lib.hid (by rw [hn]; rfl)
  have HE : Hid (listOkv L = true → ∀ i, i < n → ∃ e, L[i]? = some e ∧ (0 ≤ e.mode ∧ e.mode ≤ 4095) ∧ (1 ≤ inov L i e ∧ inov L i e ≤ 31) ∧ esz e ≤ 4194304) := Lib.hid (fun hL i hi => by
    obtain ⟨e, he⟩ := getE' (L := L) (i := i) (by omega)
    obtain ⟨hM, _, _, _, hk⟩ := entOk_facts (listOk_at hL he).1
    have h1 := ino_bounds hL he
    have h2 := listOk_len hL
    exact ⟨e, he, hM, by omega, hsm.get he⟩)
  have HN : Hid (listOkv L = true → n ≤ 30) := Lib.hid (fun h => by rw [hn]; exact listOk_len h)
  have HP : Hid (∀ i e, L[i]? = some e → cardsP L (i + 1) = cardsP L i ++ [cardOfv (inov L i e) e]) := Lib.hid (fun i e he => cardsP_step he)
  have HPl := Lib.hid (fun i => cardsP_len L i)
  have HCl := Lib.hid (fun x i => countTo_le L x i)
  have HCp := Lib.hid (fun i e (he : L[i]? = some e) => count_put he)
  have HZ : Hid (cardsP L 0 = [] ∧ (fun x => ((countTo L x 0 : Nat) : Int)) = fun _ => 0) := Lib.hid ⟨rfl, rfl⟩
  have HFu : Hid (listOkv L = true → ∀ i e, L[i]? = some e → cardv L i e = withCount (cardOfv (inov L i e) e) (if e.kind = 1 then 2 else (countTo L (inov L i e) n : Nat))) := Lib.hid (fun hL i e he => by rw [hn]; exact card_full hL he)
  have HQa := Lib.hid (fun i e (he : L[i]? = some e) h => cardsQ_at (n := n) he h)
  have HQs := Lib.hid (fun i e (he : L[i]? = some e) => cardsQ_succ (n := n) he)
  have HQl := Lib.hid (fun i h => cardsQ_len (L := L) (n := n) (i := i) h)
  have HQz := Lib.hid (cardsQ_zero L n)
  have HQe := Lib.hid (cardsQ_all L n)
  have HTl := Lib.hid (fun i => cardsTo_len L i)
  generalize cardsv L = r at HV
  generalize listOkv L = ok at HK HV HE HN HFu
  clear h1 hsm hn
  have hmm := @run_makeMap Tryz.prog
  go_enter Tryz.func44, Tryz.ntmps44
  go_wp2_with fail
  refine (HK.out _ (by simp; omega) (H1.out.below ((Below.refl _ _).alloc (Nat.le_refl _) _) hg)).mono ?_
  rintro e w1 ⟨rfl, hb⟩
  have B0 : Below w.heap.size w (w.alloc (.cells #[] 44)) := (Below.refl _ _).alloc (Nat.le_refl _) _
  have B := Lib.hid (btE B0 hb)
  have O := Lib.hid ((OwnC.lit (w := w) (base := w.heap.size) (Nat.le_refl _)).keep hb)
  clear hb B0
  cases ok with
  | false =>
    have HF : Hid (r = []) := Lib.hid (by rw [HV.out]; rfl)
    go_wp2_with fail
    go_ret
    exact ⟨_, rfl, by rw [HF.out]; exact O.out, B.out⟩
  | true =>
    have HF : Hid (r = cardsTo L n) := Lib.hid (by rw [HV.out]; rfl)
    have hn30 := HN.out rfl
    have HE2 := Lib.hid (HE.out rfl)
    have HF2 := Lib.hid (HFu.out rfl)
    clear HV HE HN HK HFu
    have NB : Below w1.heap.size w1 (w1.alloc (.map #[] 0)) := (Below.refl _ _).alloc (Nat.le_refl _) _
    have C0 := Lib.hid (cnt_made w1)
    have O1 := Lib.hid (O.out.keep NB)
    have B1 := Lib.hid (btE B.out NB)
    have hmb := B.out.size
    clear NB O B
    obtain ⟨mb, hmbe⟩ : ∃ b, w1.heap.size = b := ⟨_, rfl⟩
    rw [hmbe] at C0 hmb
    go_wp2_with fail
    clear hmbe
    go_loopw [3, 5, 6, 7, 18] (fun v _ _ _ u wr => ∃ i : Nat, u = .int .i64 i ∧ i ≤ n ∧ OwnC wr w.heap.size v (cardsP L i) ∧ CntAt wr mb i (fun x => ((countTo L x i : Nat) : Int)) ∧ Below w.heap.size w wr) (fun _ _ _ _ u _ => n - (intOf u).toNat)
    case atStart => exact ⟨0, rfl, Nat.zero_le _, by rw [HZ.out.1]; exact O1.out, by rw [HZ.out.2]; exact C0.out, B1.out⟩
    case round =>
      obtain ⟨i, rfl, hi, ho, hc, hb⟩ := hrel
      obtain ⟨wo, hwo⟩ : ∃ wo, wo = wr := ⟨_, rfl⟩
      subst hwo
      have O := Lib.hid ho
      have CM := Lib.hid hc
      have B := Lib.hid hb
      have hsz := B.out.size
      have hmo := CM.out.lt
      clear ho hc hb O1 C0 B1
      by_cases hlt : i < n
      · have hlt2 : (i : Int) < (n : Int) := by omega
        obtain ⟨e, he, hmd, hxd, hz⟩ := HE2.out i hlt
        have HI2 := Lib.hid (fun w hg h => HI.out i e w he hg h)
        have HP2 := Lib.hid (HP.out i e he)
        have HPl2 := HPl.out i
        have HCp2 := Lib.hid (HCp.out i e he)
        have hcb := HCl.out (inov L i e) i
        have R := Lib.hid (H1.out.below B.out hg)
        have zg : g < wo.heap.size := by omega
        have HCd := Lib.hid (fun w => cardOf_impl e (inov L i e) w hz hmd.1 hmd.2)
        obtain ⟨c0, c1, c2, c3, c4, c5, c6, c7, c8, c9⟩ := R.out.ten he
        clear he HP HCp hz hmd
        obtain ⟨go, co, rfl, _, zo, hbo, _⟩ := O.out.open
        generalize inov L i e = x at HI2 HP2 HCp2 HCd hcb hxd
        obtain ⟨D, hD⟩ : ∃ D, cardsP L i = D := ⟨_, rfl⟩
        rw [hD] at HP2 O HPl2 ⊢
        have hDl : D.length ≤ 30 := by omega
        clear hD HPl2
        obtain ⟨k, p, l, m, u1, gi, t, us, gr, b⟩ := e
        simp only [cardOfv, Card.cells, Ent.cells] at HCd HP2
        generalize m + modev k = mo at HCd HP2
        generalize (if k = 1 then (⟨#[]⟩ : ByteArray) else datav ⟨k, p, l, m, u1, gi, t, us, gr, b⟩) = dat at HCd HP2
        go_upto_region 8 with fail
        generalize hw5 : World.alloc wo _ = w5
        have NB : Below wo.heap.size wo w5 := by rw [← hw5]; exact (Below.refl _ _).alloc (Nat.le_refl _) _
        have XE : EntO w5 wo.heap.size ⟨k, p, l, m, u1, gi, t, us, gr, b⟩ := by rw [← hw5]; exact EntO.new wo ⟨k, p, l, m, u1, gi, t, us, gr, b⟩
        clear hw5 c0 c1 c2 c3 c4 c5 c6 c7 c8 c9
        replace O := Lib.hid (O.out.keep NB)
        replace CM := Lib.hid (CM.out.below NB)
        replace R := Lib.hid (R.out.below NB zg)
        replace B := Lib.hid (btE B.out NB)
        have zx := XE.lt
        have zg5 : g < w5.heap.size := Nat.lt_of_lt_of_le zg NB.size
        have HI3 := Lib.hid (fun w' (hb : Below w5.heap.size w5 w') => HI2.out w' (Nat.lt_of_lt_of_le zg5 hb.size) (R.out.below hb zg5))
        have KC : Hid (∀ w', Below w5.heap.size w5 w' → w'.cell? ⟨wo.heap.size, 0, none⟩ = some (.int .i64 k) ∧ w'.cell? ⟨wo.heap.size, 1, none⟩ = some (.string p) ∧ w'.cell? ⟨wo.heap.size, 2, none⟩ = some (.string l) ∧ w'.cell? ⟨wo.heap.size, 3, none⟩ = some (.int .i64 m) ∧ w'.cell? ⟨wo.heap.size, 4, none⟩ = some (.int .i64 u1) ∧ w'.cell? ⟨wo.heap.size, 5, none⟩ = some (.int .i64 gi) ∧ w'.cell? ⟨wo.heap.size, 6, none⟩ = some (.int .i64 t) ∧ w'.cell? ⟨wo.heap.size, 7, none⟩ = some (.string us) ∧ w'.cell? ⟨wo.heap.size, 8, none⟩ = some (.string gr) ∧ w'.cell? ⟨wo.heap.size, 9, none⟩ = some (.string b)) := Lib.hid (fun w' hb => by
          obtain ⟨d0, d1, d2, d3, d4, d5, d6, d7, d8, d9⟩ := (XE.below hb zx).at.zero
          exact ⟨d0, d1, d2, d3, d4, d5, d6, d7, d8, d9⟩)
        clear NB HI2 R
        refine wp_region_cut 6 (by kernel_rfl) (fun w' => Below w5.heap.size w5 w') (fun x y => Below x.heap.size x y) (vBxG 7 44 w5.heap.size #[.int .i64 0, .int .i64 0, .int .i64 0, .int .i64 0, .int .i64 0, .int .i64 0, .string ⟨#[]⟩, .string ⟨#[]⟩] (fun d v => match d with | 23 => v = .agg #[.int .i64 k, .string p, .string l, .int .i64 m, .int .i64 u1, .int .i64 gi, .int .i64 t, .string us, .string gr, .string b] | 24 => v = .slice (some ⟨g, 0, none⟩) n cap | 25 => v = .int .i64 (i : Int) | 26 => v = .int .i64 x | 27 => v = .agg #[.int .i64 x, .int .i64 mo, .int .i64 u1, .int .i64 gi, .int .i64 0, .int .i64 t, .string p, .string dat] | _ => True)) (by kernel_rfl) (by kernel_rfl) ((Below.refl _ _).drew) (vBxG_keep _ _ _ _ _) (by simp) ?hops ?hend
        case hops =>
          simp only [List.take_succ_cons, List.take_zero, List.forall_mem_cons]
          refine ⟨?o23, ?o24, ?o25, ?o26, ?o27, ?o7, fun _ h => by cases h⟩
          case o23 =>
            intro Q a w2 hC hV hI
            have e6 : a.eval (.tmp 6) = .pointer (some ⟨wo.heap.size, 0, none⟩) := (hI 6 (by simp [Op.operands]) (by kernel_rfl)).trans rfl
            have f6 : a.tmps.getD 6 undef = .pointer (some ⟨wo.heap.size, 0, none⟩) := e6
            have g6 : a.tmps[6]?.getD undef = .pointer (some ⟨wo.heap.size, 0, none⟩) := by rw [← Array.getD_eq_getD_getElem?]; exact e6
            have hK := KC.out w2 hC
            refine op_val (.agg #[.int .i64 k, .string p, .string l, .int .i64 m, .int .i64 u1, .int .i64 gi, .int .i64 t, .string us, .string gr, .string b]) ?_ hC (Below.refl _ _) (by intro d hd; cases hd; exact rfl)
            (clear hV hI hC; go_simp <;> (first | rfl | simp | (rw [IntKind.wrap_i64]; omega)))
          case o24 =>
            intro Q a w2 hC hV hI
            have e0 : a.eval (.tmp 0) = .slice (some ⟨g, 0, none⟩) n cap := (hI 0 (by simp [Op.operands]) (by kernel_rfl)).trans rfl
            have f0 : a.tmps.getD 0 undef = .slice (some ⟨g, 0, none⟩) n cap := e0
            have g0 : a.tmps[0]?.getD undef = .slice (some ⟨g, 0, none⟩) n cap := by rw [← Array.getD_eq_getD_getElem?]; exact e0
            refine op_val (.slice (some ⟨g, 0, none⟩) n cap) ?_ hC (Below.refl _ _) (by intro d hd; cases hd; exact rfl)
            (clear hV hI hC; go_simp <;> (first | rfl | simp | (rw [IntKind.wrap_i64]; omega)))
          case o25 =>
            intro Q a w2 hC hV hI
            have e5 : a.eval (.tmp 5) = .int .i64 (i : Int) := (hI 5 (by simp [Op.operands]) (by kernel_rfl)).trans rfl
            have f5 : a.tmps.getD 5 undef = .int .i64 (i : Int) := e5
            have g5 : a.tmps[5]?.getD undef = .int .i64 (i : Int) := by rw [← Array.getD_eq_getD_getElem?]; exact e5
            refine op_val (.int .i64 (i : Int)) ?_ hC (Below.refl _ _) (by intro d hd; cases hd; exact rfl)
            (clear hV hI hC; go_simp <;> (first | rfl | simp | (rw [IntKind.wrap_i64]; omega)))
          case o26 =>
            intro Q a w2 hC hV hI
            have e24 : a.eval (.tmp 24) = .slice (some ⟨g, 0, none⟩) n cap := hV 24 (by simp [Op.operands, Call.operands]) (by kernel_rfl)
            have f24 : a.tmps.getD 24 undef = .slice (some ⟨g, 0, none⟩) n cap := e24
            have g24 : a.tmps[24]?.getD undef = .slice (some ⟨g, 0, none⟩) n cap := by rw [← Array.getD_eq_getD_getElem?]; exact e24
            have e25 : a.eval (.tmp 25) = .int .i64 (i : Int) := hV 25 (by simp [Op.operands, Call.operands]) (by kernel_rfl)
            have f25 : a.tmps.getD 25 undef = .int .i64 (i : Int) := e25
            have g25 : a.tmps[25]?.getD undef = .int .i64 (i : Int) := by rw [← Array.getD_eq_getD_getElem?]; exact e25
            refine op_call (f := 70) (args := #[.slice (some ⟨g, 0, none⟩) n cap, .int .i64 (i : Int)]) (R := fun v y => v = .int .i64 x ∧ Below w2.heap.size w2 y) ?_ ((HI3.out w2 hC).mono ?_) ?_
            · (clear hV hI hC; go_simp <;> (first | rfl | simp | (rw [IntKind.wrap_i64]; omega)))
            · rintro e y ⟨rfl, hb⟩; exact ⟨_, rfl, rfl, hb⟩
            · rintro v y ⟨rfl, hb⟩; exact ⟨hC.trans (hb.mono hC.size), hb, by intro d hd; cases hd; exact rfl⟩
          case o27 =>
            intro Q a w2 hC hV hI
            have e23 : a.eval (.tmp 23) = .agg #[.int .i64 k, .string p, .string l, .int .i64 m, .int .i64 u1, .int .i64 gi, .int .i64 t, .string us, .string gr, .string b] := hV 23 (by simp [Op.operands, Call.operands]) (by kernel_rfl)
            have f23 : a.tmps.getD 23 undef = .agg #[.int .i64 k, .string p, .string l, .int .i64 m, .int .i64 u1, .int .i64 gi, .int .i64 t, .string us, .string gr, .string b] := e23
            have g23 : a.tmps[23]?.getD undef = .agg #[.int .i64 k, .string p, .string l, .int .i64 m, .int .i64 u1, .int .i64 gi, .int .i64 t, .string us, .string gr, .string b] := by rw [← Array.getD_eq_getD_getElem?]; exact e23
            have e26 : a.eval (.tmp 26) = .int .i64 x := hV 26 (by simp [Op.operands, Call.operands]) (by kernel_rfl)
            have f26 : a.tmps.getD 26 undef = .int .i64 x := e26
            have g26 : a.tmps[26]?.getD undef = .int .i64 x := by rw [← Array.getD_eq_getD_getElem?]; exact e26
            refine op_call (f := 69) (args := #[.agg #[.int .i64 k, .string p, .string l, .int .i64 m, .int .i64 u1, .int .i64 gi, .int .i64 t, .string us, .string gr, .string b], .int .i64 x]) (R := fun v y => v = .agg #[.int .i64 x, .int .i64 mo, .int .i64 u1, .int .i64 gi, .int .i64 0, .int .i64 t, .string p, .string dat] ∧ Below w2.heap.size w2 y) ?_ ((HCd.out w2).mono ?_) ?_
            · (clear hV hI hC; go_simp <;> (first | rfl | simp | (rw [IntKind.wrap_i64]; omega)))
            · rintro e y ⟨rfl, hb⟩; exact ⟨_, rfl, rfl, hb⟩
            · rintro v y ⟨rfl, hb⟩; exact ⟨hC.trans (hb.mono hC.size), hb, by intro d hd; cases hd; exact rfl⟩
          case o7 =>
            intro Q a w2 hC hV hI
            refine op_val (.pointer (some ⟨w2.heap.size, 0, none⟩)) (w' := w2.alloc (.cells #[.int .i64 0, .int .i64 0, .int .i64 0, .int .i64 0, .int .i64 0, .int .i64 0, .string ⟨#[]⟩, .string ⟨#[]⟩] 44)) ?_ (hC.alloc hC.size _) ((Below.refl _ _).alloc (Nat.le_refl _) _) ?_
            · (clear hV hI hC; go_simp <;> (first | rfl | simp | (rw [IntKind.wrap_i64]; omega)))
            · intro d hd; cases hd; exact ⟨w2.heap.size, rfl, hC.size, heap_lastG _ _⟩
        case hend =>
          intro f w6 hC hall
          simp only [List.take_succ_cons, List.take_zero, List.drop_succ_cons, List.drop_zero] at hall ⊢
          simp only [List.forall_mem_cons] at hall
          obtain ⟨h23, h24, h25, h26, h27, h7, _⟩ := hall
          replace h23 : f 23 = .agg #[.int .i64 k, .string p, .string l, .int .i64 m, .int .i64 u1, .int .i64 gi, .int .i64 t, .string us, .string gr, .string b] := h23 23 rfl
          replace h24 : f 24 = .slice (some ⟨g, 0, none⟩) n cap := h24 24 rfl
          replace h25 : f 25 = .int .i64 (i : Int) := h25 25 rfl
          replace h26 : f 26 = .int .i64 x := h26 26 rfl
          replace h27 : f 27 = .agg #[.int .i64 x, .int .i64 mo, .int .i64 u1, .int .i64 gi, .int .i64 0, .int .i64 t, .string p, .string dat] := h27 27 rfl
          obtain ⟨G7, hG7, hGB7, hGO7⟩ : ∃ G, f 7 = .pointer (some ⟨G, 0, none⟩) ∧ w5.heap.size ≤ G ∧ w6.heap[G]? = some (.cells #[.int .i64 0, .int .i64 0, .int .i64 0, .int .i64 0, .int .i64 0, .int .i64 0, .string ⟨#[]⟩, .string ⟨#[]⟩] 44 (0, 0)) := h7 7 rfl
          simp only [putAll, Act.put, List.setIfInBounds_toArray, List.set_cons_succ, List.set_cons_zero, h23, h24, h25, h26, h27, hG7]
          clear h23 h24 h25 h26 h27 hG7 h7
          clear KC HI3
          replace O := Lib.hid (O.out.keep hC)
          replace CM := Lib.hid (CM.out.below hC)
          replace XE := XE.below hC zx
          replace B := Lib.hid (btE B.out hC)
          have XO : CardO w6 G7 zeroC := hGO7
          have zo6 : go < w6.heap.size := (World.ownsRow.lt O.out.1 go rfl).2
          have hgo : ¬ G7 = go := by have := (World.ownsRow.lt O.out.1 go rfl).2; have := zo; omega
          have hm7 : ¬ mb = G7 := by omega
          have hx7 : ¬ wo.heap.size = G7 := by omega
          have hw7 : w.heap.size ≤ G7 := by omega
          obtain ⟨d0, d1, d2, d3, d4, d5, d6, d7⟩ := XO.at.zero
          have f0 := XO.fz 0
          have f1 := XO.fz 1
          have f2 := XO.fz 2
          have f3 := XO.fz 3
          have f4 := XO.fz 4
          have f5 := XO.fz 5
          have f6 := XO.fz 6
          have f7 := XO.fz 7
          have XP := XO.put ⟨x, mo, u1, gi, 0, t, p, dat⟩
          have OP := OwnC.kept (w' := putOC w6 G7 ⟨x, mo, u1, gi, 0, t, p, dat⟩) O.out (row := some G7) (grown_putOC w6 G7 _) (fun e => hgo (Option.some.inj e).symm)
          have CP := CM.out.kept (w' := putOC w6 G7 ⟨x, mo, u1, gi, 0, t, p, dat⟩) (row := some G7) (grown_putOC w6 G7 _) (fun e => hm7 (Option.some.inj e))
          have BP := below_putOC (g := G7) B.out hw7 ⟨x, mo, u1, gi, 0, t, p, dat⟩
          simp only [putOC] at XP OP CP BP
          go_upto_region 9 with fail
          obtain ⟨w7, hw7e⟩ : ∃ y, y = ((((((((w6.setCell ⟨G7, 0, none⟩ (.int .i64 x)).setCell ⟨G7, 1, none⟩ (.int .i64 mo)).setCell ⟨G7, 2, none⟩ (.int .i64 u1)).setCell ⟨G7, 3, none⟩ (.int .i64 gi)).setCell ⟨G7, 4, none⟩ (.int .i64 0)).setCell ⟨G7, 5, none⟩ (.int .i64 t)).setCell ⟨G7, 6, none⟩ (.string p)).setCell ⟨G7, 7, none⟩ (.string dat)) := ⟨_, rfl⟩
          rw [← hw7e] at XP OP CP BP ⊢
          clear hw7e d0 d1 d2 d3 d4 d5 d6 d7 f0 f1 f2 f3 f4 f5 f6 f7 O CM B XE XO hGO7
          have O := Lib.hid OP
          have B := Lib.hid BP
          obtain ⟨Dm, hown, hD⟩ := CP
          have OM := Lib.hid hown
          have HDm := Lib.hid hD
          have HLk : Hid (Dm.atKey (keyIn x) (.lit (.int .i64 0)) = .lit (.int .i64 ((countTo L x i : Nat) : Int))) := Lib.hid (hD.2 x)
          obtain ⟨cx, hcx⟩ : ∃ c, countTo L x i = c := ⟨_, rfl⟩
          rw [hcx] at HLk HCp2 hcb
          clear OP BP hown hD hcx
          have XC := Lib.hid XP
          obtain ⟨d0, d1, d2, d3, d4, d5, d6, d7⟩ := XP.at.zero
          clear XP
          go_upto_region 10 with (first | (at_lookup; refine wpList_lookup_own_int _ rfl _ _ 92 rfl 3 3 .i64 lawIn Tryz.underlying92 Tryz.underlying3 (zeroIn _) mb i Dm rfl OM.out _ _ rfl (key_in (by omega) (by omega)) ?_; intro c' hat _; obtain rfl : c' = (cx : Int) := (by have := hat.symm.trans HLk.out; simpa using this); clear hat) | (at_mapUpdate; refine wpList_mapUpdate_own _ rfl _ _ _ 92 rfl 3 3 lawIn Tryz.underlying92 _ mb i Dm rfl OM.out (by simp only [maxLen]; omega) _ _ _ rfl rfl (key_in (by omega) (by omega)) _ [] (plainElem_int Tryz.underlying3 (wf_in (by omega) (by omega))) ?_; intro w8 hown2 hgrow2))
          have CM8 : Hid (CntAt w8 mb (i + 1) (fun x => ((countTo L x (i + 1) : Nat) : Int))) := Lib.hid (by rw [← HCp2.out]; exact ⟨_, hown2, HDm.out.put x _⟩)
          have hne := card_map_ne O.out ⟨Dm, OM.out, HDm.out⟩
          have O8 : Hid (OwnC w8 w.heap.size (.slice (some ⟨go, 0, none⟩) D.length co) D) := Lib.hid (O.out.kept hgrow2 (fun e => hne e.symm))
          have X8 := XC.out.grown hgrow2 (fun e => hm7 (Option.some.inj e).symm)
          have B8 : Hid (Below w.heap.size w w8) := Lib.hid (B.out.grown hgrow2 B.out.size (fun b hb => by cases hb; omega))
          have OW := Lib.hid O8.out.1
          have hsz8 := B8.out.size
          clear hown2 hgrow2 hne O OM HDm HLk B XC d0 d1 d2 d3 d4 d5 d6 d7 HCp2
          obtain ⟨d0, d1, d2, d3, d4, d5, d6, d7⟩ := X8.at.zero
          go_wp2_with (at_builtin; refine wpList_append_own _ rfl _ _ 38 rfl w.heap.size 44 i0 (.agg #[.int .i64 0, .int .i64 0, .int .i64 0, .int .i64 0, .int .i64 0, .int .i64 0, .string ⟨#[]⟩, .string ⟨#[]⟩]) 8 80 Tryz.underlying38 hi0 hz0 hz1 hz2 rfl (by decide) _ D.length (valsC D) rfl ?c0q ⟨w8.heap.size, 0, none⟩ 1 1 (valsC [⟨x, mo, u1, gi, 0, t, p, dat⟩]) rfl (valsC_len _) ?c1q ?c2q ?c3q ?c4q ?c5q ?_)
          case c0q => exact World.ownsRow.alloc OW.out _
          case c1q => intro jj uu hu; rw [valsC_one] at hu; exact hu
          case c2q => exact valsC_onecell _
          any_goals (first | (simp only [maxLen]; omega) | omega | (simp; omega))
          intro v' w9 hown hgrow hnil
          have NB : Below w8.heap.size w8 (w8.alloc (.cells (Card.cells ⟨x, mo, u1, gi, 0, t, p, dat⟩).toArray 44)) := (Below.refl _ _).alloc (Nat.le_refl _) _
          have hne9 := card_map_ne O8.out CM8.out
          have O9 : Hid (OwnC w9 w.heap.size v' (cardsP L (i + 1))) := Lib.hid (by rw [HP2.out]; exact own_appC hown rfl rfl hnil)
          have CM9 := Lib.hid ((CM8.out.below NB).kept hgrow hne9)
          have B9 : Hid (Below w.heap.size w w9) := Lib.hid ((btE B8.out NB).grown hgrow (by have := NB.size; omega) (fun b hb => (World.ownsRow.lt OW.out b hb).1))
          clear hown hgrow hnil NB hne9 O8 CM8 B8 OW X8 d0 d1 d2 d3 d4 d5 d6 d7
          go_wp2_with fail
          go_roundw
          case rel => exact ⟨i + 1, by go_num, by omega, O9.out, CM9.out, B9.out⟩
          case measure => simp [intOf]; omega
      · obtain rfl : i = n := by omega
        have hlt2 : ¬ (i : Int) < (i : Int) := by omega
        have HPl2 := HPl.out i
        rw [← HQz.out] at O HPl2
        obtain ⟨go, co, rfl, _, zo, hbo, _⟩ := O.out.open
        rw [HPl2] at *
        clear HPl HP HZ HCp HI HPl2
        have hmm2 := CM.out.lt
        go_wp2_with fail
        go_loopw [8, 9, 40] (fun _ _ u w2 => ∃ j : Nat, u = .int .i64 j ∧ j ≤ i ∧ OwnC w2 w.heap.size (.slice (some ⟨go, 0, none⟩) i co) (cardsQ L i j) ∧ CntAt w2 mb i (fun x => ((countTo L x i : Nat) : Int)) ∧ Below w.heap.size w w2) (fun _ _ u _ => i - (intOf u).toNat)
        case atStart => exact ⟨0, rfl, Nat.zero_le _, O.out, CM.out, B.out⟩
        case round =>
          obtain ⟨j, rfl, hj, ho, hc, hb⟩ := hrel
          obtain ⟨wp, hwp⟩ : ∃ wp, wp = wr := ⟨_, rfl⟩
          subst hwp
          clear O CM B hmm2
          have O := Lib.hid ho
          have CM := Lib.hid hc
          have B := Lib.hid hb
          have hszp := B.out.size
          clear ho hc hb
          by_cases hltj : j < i
          · have hltj2 : (j : Int) < (i : Int) := by omega
            obtain ⟨e, he, hmd, hxd, hz⟩ := HE2.out j hltj
            have R := Lib.hid (H1.out.below B.out hg)
            have zg : g < wp.heap.size := by omega
            have HA := HQa.out j e he hltj
            have HS := HQs.out j e he
            have HFd := HF2.out j e he
            have HLe := HQl.out j hj
            have HTj := HTl.out j
            have hcb := HCl.out (inov L j e) i
            obtain ⟨c0, c1, c2, c3, c4, c5, c6, c7, c8, c9⟩ := R.out.ten he
            rw [HFd] at HS
            clear he hmd hz R HFd
            rw [HA] at O HLe
            generalize inov L j e = x at O HS hcb hxd HLe
            obtain ⟨A, hA⟩ : ∃ A, cardsTo L j = A := ⟨_, rfl⟩
            obtain ⟨T, hT⟩ : ∃ T, (cardsP L i).drop (j + 1) = T := ⟨_, rfl⟩
            rw [hA] at O HS HTj HLe
            rw [hT] at O HS HLe
            clear hA hT HA
            obtain ⟨k, p, l, m, u1, gi, t, us, gr, b⟩ := e
            have hgw := (World.ownsRow.lt O.out.1 go rfl).2
            have NB : Below wp.heap.size wp (wp.alloc (.cells (Ent.cells ⟨k, p, l, m, u1, gi, t, us, gr, b⟩).toArray 41)) := (Below.refl _ _).alloc (Nat.le_refl _) _
            have XE := Lib.hid (EntO.new wp ⟨k, p, l, m, u1, gi, t, us, gr, b⟩)
            replace O := Lib.hid (O.out.keep NB)
            replace CM := Lib.hid (CM.out.below NB)
            replace B := Lib.hid (btE B.out NB)
            simp only [Ent.cells] at XE O CM B HS
            clear NB
            go_upto_region 15 with fail
            obtain ⟨w3, hw3⟩ : ∃ y, y = wp.alloc (.cells #[.int .i64 k, .string p, .string l, .int .i64 m, .int .i64 u1, .int .i64 gi, .int .i64 t, .string us, .string gr, .string b] 41) := ⟨_, rfl⟩
            simp only [List.toArray] at XE O CM B
            rw [← hw3] at XE O CM B ⊢
            clear hw3 c0 c1 c2 c3 c4 c5 c6 c7 c8 c9
            have hin : (valsC (A ++ cardOfv x ⟨k, p, l, m, u1, gi, t, us, gr, b⟩ :: T))[A.length * 8 + 0]? = some (.int .i64 x) := by
              rw [valsC_get _ _ _ (by omega)]
              simp [cardOfv, Card.cells]
            have hc0 := O.out.row.1 _ _ hin
            have hin4 : ∃ y, (valsC (A ++ cardOfv x ⟨k, p, l, m, u1, gi, t, us, gr, b⟩ :: T))[A.length * 8 + 4]? = some y := by
              rw [valsC_get _ _ _ (by omega)]
              simp [Card.cells]
            obtain ⟨y4, hin4⟩ := hin4
            have hc4 := O.out.row.1 _ _ hin4
            have hfz := O.out.1
            rw [HLe] at hfz
            have hf4 : w3.frozen? ⟨go, A.length * 8 + 4, none⟩ = false := World.ownsRow.frozenAt hfz (A.length * 8 + 4)
            clear hin hin4 hfz
            rw [HTj] at hc0 hc4 hf4
            simp only [Nat.add_zero] at hc0
            obtain ⟨Dm, hown, hD⟩ := CM.out
            have OM := Lib.hid hown
            have HLk : Hid (Dm.atKey (keyIn x) (.lit (.int .i64 0)) = .lit (.int .i64 ((countTo L x i : Nat) : Int))) := Lib.hid (hD.2 x)
            have hne := card_map_ne O.out CM.out
            obtain ⟨cx, hcx⟩ : ∃ c, countTo L x i = c := ⟨_, rfl⟩
            rw [hcx] at HLk HS hcb
            clear hown hD hcx
            have O4 := Lib.hid (rowC_count (n := j) HLe.symm O.out HTj.symm (cx : Int))
            have hgo : ¬ wp.heap.size = go := by omega
            have CM4 := Lib.hid (CM.out.kept (w' := w3.setCell ⟨go, j * 8 + 4, none⟩ (.int .i64 (cx : Int))) (row := some go) (grown_setC (grownOC w3 _) _ _) hne)
            have X4 := Lib.hid (XE.out.other (b := go) (i := j * 8 + 4) (v := .int .i64 (cx : Int)) hgo)
            have B4 := Lib.hid (B.out.setCell (p := ⟨go, j * 8 + 4, none⟩) hbo (.int .i64 (cx : Int)))
            clear O CM XE B
            go_upto_region 16 with ((at_lookup; refine wpList_lookup_own_int _ rfl _ _ 92 rfl 3 3 .i64 lawIn Tryz.underlying92 Tryz.underlying3 (zeroIn _) mb i Dm rfl OM.out _ _ rfl (key_in (by omega) (by omega)) ?_; intro c' hat _; obtain rfl : c' = (cx : Int) := (by have := hat.symm.trans HLk.out; simpa using this); clear hat))
            obtain ⟨w4, hw4⟩ : ∃ y, y = w3.setCell ⟨go, j * 8 + 4, none⟩ (.int .i64 (cx : Int)) := ⟨_, rfl⟩
            rw [← hw4] at O4 CM4 X4 B4 ⊢
            clear hw4 hc0 hc4 hf4 hne OM HLk
            obtain ⟨d0, d1, d2, d3, d4, d5, d6, d7, d8, d9⟩ := X4.out.at.zero
            by_cases hk : k = 1
            · subst hk
              have HS2 : Hid (cardsQ L i (j + 1) = A ++ withCount (withCount (cardOfv x ⟨1, p, l, m, u1, gi, t, us, gr, b⟩) (cx : Int)) 2 :: T) := Lib.hid (by rw [HS]; rfl)
              have hin4 : ∃ y, (valsC (A ++ withCount (cardOfv x ⟨1, p, l, m, u1, gi, t, us, gr, b⟩) (cx : Int) :: T))[A.length * 8 + 4]? = some y := by
                rw [valsC_get _ _ _ (by omega)]
                simp [Card.cells]
              obtain ⟨y5, hin4⟩ := hin4
              have hc4 := O4.out.row.1 _ _ hin4
              have HLe2 : i = (A ++ withCount (cardOfv x ⟨1, p, l, m, u1, gi, t, us, gr, b⟩) (cx : Int) :: T).length := by rw [← HLe]; simp
              have hfz := O4.out.1
              rw [← HLe2] at hfz
              have hf4 : w4.frozen? ⟨go, A.length * 8 + 4, none⟩ = false := World.ownsRow.frozenAt hfz (A.length * 8 + 4)
              rw [HTj] at hc4 hf4
              clear hin4 hfz
              have hne := card_map_ne O4.out CM4.out
              have O5 := Lib.hid (rowC_count (n := j) HLe2 O4.out HTj.symm 2)
              have CM5 := Lib.hid (CM4.out.kept (w' := w4.setCell ⟨go, j * 8 + 4, none⟩ (.int .i64 2)) (row := some go) (grown_setC (grownOC w4 _) _ _) hne)
              have B5 := Lib.hid (B4.out.setCell (p := ⟨go, j * 8 + 4, none⟩) hbo (.int .i64 2))
              clear O4 CM4 X4 B4 HS HLe2
              go_wp2_with fail
              go_roundw
              case rel => exact ⟨j + 1, by go_num, by omega, by rw [HS2.out]; exact O5.out, CM5.out, B5.out⟩
              case measure => simp [intOf]; omega
            · have hk2 : (k == 1) = false := by simpa using hk
              have HS2 : Hid (cardsQ L i (j + 1) = A ++ withCount (cardOfv x ⟨k, p, l, m, u1, gi, t, us, gr, b⟩) (cx : Int) :: T) := Lib.hid (by rw [HS, if_neg hk])
              clear HS hk X4
              go_wp2_with fail
              go_roundw
              case rel => exact ⟨j + 1, by go_num, by omega, by rw [HS2.out]; exact O4.out, CM4.out, B4.out⟩
              case measure => simp [intOf]; omega
          · obtain rfl : j = i := by omega
            have hltj2 : ¬ (j : Int) < (j : Int) := by omega
            rw [HQe.out, ← HF.out] at O
            go_wp2_with fail
            go_ret
            exact ⟨_, rfl, O.out, B.out⟩
end Go.Proofs.YtancidbbkoeokaaGreat

/- What both formats' writing shares: rows of bytes beside a box of functions and a row of cards. -/
namespace Go.Proofs.YtancidbbkoeokaaGreat
open Go.ChangeShapes Go.WideShapes Go.ChangeAt Go.RowKit Go.Deep

theorem own_neW {w : World} {base : Nat} {e t : TypeId} {v : Value} {n g : Nat} {xs : List Value} {cs : Array Value} {fr : Nat × Nat} (h : w.ownsRow base e 1 v n xs) (hg : w.heap[g]? = some (.cells cs t fr)) (ht : ¬ t = e) : some g ≠ v.ownBlock := by
  intro e1
  rcases h.2 with ⟨h0, _⟩ | ⟨g', cap', cur, hv, hg', hh, _⟩
  · subst h0; simp [Value.ownBlock] at e1
  · subst hv
    simp [Value.ownBlock] at e1
    subst e1
    rw [hg] at hh
    simp at hh
    exact ht hh.2.1
theorem ownB_belowW {w w' : World} {base : Nat} {v : Value} {l : List UInt8} (h : OwnB w base v l) (hb : Below w.heap.size w w') : OwnB w' base v l :=
  World.ownsRow.kept h (row := none) ⟨hb.os, hb.tape, hb.output, hb.size, fun k hk _ => hb.block k hk⟩ (by cases hv : v.ownBlock <;> simp)
theorem textW {w : World} {base n : Nat} {v : Value} {l : List UInt8} {s : ByteArray} (hn : n = l.length + s.size) (h : w.ownsRow base 5 1 v n (byteVals l ++ Lib.strCells s)) : OwnB w base v (l ++ s.data.toList) := by
  subst hn
  have e : byteVals l ++ Lib.strCells s = byteVals (l ++ s.data.toList) := by simp [byteVals, Lib.strCells]
  rw [e, show l.length + s.size = (l ++ s.data.toList).length from by simp] at h
  exact h
theorem ba_appW (a b : ByteArray) : (⟨(a.data.toList ++ b.data.toList).toArray⟩ : ByteArray) = a ++ b := by
  apply ba_ext
  simp
theorem ownC_heapW {w : World} {base g n cap : Nat} {L : List Card} (h : OwnC w base (.slice (some ⟨g, 0, none⟩) n cap) L) : ∃ cs fr, w.heap[g]? = some (.cells cs 44 fr) := by
  rcases h.1.2 with ⟨h0, _⟩ | ⟨g', cap', cur, hv, _, hh, _⟩
  · cases h0
  · cases hv
    exact ⟨_, _, hh⟩
theorem rowB_neW {w : World} {base b : Nat} {v v' : Value} {L : List Card} {l : List UInt8} (h : OwnC w b v' L) (o : OwnB w base v l) : v'.ownBlock ≠ v.ownBlock := by
  obtain ⟨g, cap, rfl, _⟩ := h.open
  obtain ⟨cs, fr, hh⟩ := ownC_heapW h
  have := own_neW o hh (by decide)
  simpa [Value.ownBlock] using this
theorem heap_newW (w : World) (o : Obj) (g : Nat) (hg : g = w.heap.size) : (w.alloc o).heap[g]? = some o := by subst hg; exact heap_lastG w o
theorem wpList_store_eqW {P : Program} {ops : Array Oper} {rest : List Oper} {o : Oper} {a : Act} {w w' : World} {Q : Exit → Act → World → Prop} (hgd : o.guard = none) (ty : TypeId) (x y : Operand) (ho : o.op = .store ty x y)
    (g : Addr) (hx : a.eval x = .pointer (some g)) {v : Value} (hy : a.eval y = v) (hr : (storeVar ty g v).run P w = .ok () w') (h : wpList P ops Q rest (a.put o.dst undef) w') : wpList P ops Q (o :: rest) a w :=
  wpList_plain hgd fun _ hK => by
    unfold Oper.wp execOp
    simp only [ho, hx, hy, Instr.storeAt, Instr.sureAddr, Sem.run_bind, Sem.run_pure, Result.andThen_ok, hr]
    exact hK _ _ h
theorem Tryz.sizeCF : (Tryz.prog.info? 50).map (·.size) = some 3 := by kernel_rfl
end Go.Proofs.YtancidbbkoeokaaGreat

/- Contract of impl.cardFormat.write at the format with headers in words. -/
namespace Go.Proofs.YtancidbbkoeokaaGreat
open Go.ChangeShapes Go.WideShapes Go.ChangeAt Go.RowKit Go.Deep

/-- What the writing of one card answers: kept as a premise here, so that this text need not see how it is proved. -/
def PutBinOk : Prop := ∀ (ino mo u1 gi cn t : Int) (p d : ByteArray) (hi : Bool) (w : World), p.size ≤ 4194304 → d.size ≤ 4194304 →
    Calls Tryz.prog 40 #[.agg #[.int .i64 ino, .int .i64 mo, .int .i64 u1, .int .i64 gi, .int .i64 cn, .int .i64 t, .string p, .string d], .bool hi] w fun e w' => e = .returned (.string (binTextv ⟨ino, mo, u1, gi, cn, t, p, d⟩ hi)) ∧ Below w.heap.size w w'
theorem bfmt1_any (HPB : PutBinOk) (ino mo u1 gi cn t : Int) (p d : ByteArray) (crc : Bool) (gk : Nat) (w : World) (hp : p.size ≤ 4194304) (hd : d.size ≤ 4194304) (hck : w.heap[gk]? = some (.cells #[.bool crc] 4 (0, 0))) :
    Calls Tryz.prog 39 #[.agg #[.int .i64 ino, .int .i64 mo, .int .i64 u1, .int .i64 gi, .int .i64 cn, .int .i64 t, .string p, .string d], .pointer (some ⟨gk, 0, none⟩)] w fun e w' => e = .returned (.string (binTextv ⟨ino, mo, u1, gi, cn, t, p, d⟩ crc)) ∧ Below w.heap.size w w' := by
  have HP := Lib.hid (fun w => HPB ino mo u1 gi cn t p d crc w hp hd)
  have hlt := (Array.getElem?_eq_some_iff.1 hck).1
  have CK := Lib.hid hck
  generalize binTextv ⟨ino, mo, u1, gi, cn, t, p, d⟩ crc = r at HP
  clear hck hp hd HPB
  go_enter Tryz.func39, Tryz.ntmps39
  go_upto_region 1 with fail
  generalize hw1 : World.alloc w _ = w1
  have XC : Hid (CardO w1 w.heap.size ⟨ino, mo, u1, gi, cn, t, p, d⟩) := Lib.hid (by rw [← hw1]; exact CardO.new w ⟨ino, mo, u1, gi, cn, t, p, d⟩)
  have B : Hid (Below w.heap.size w w1) := Lib.hid (by rw [← hw1]; exact (Below.refl _ _).alloc (Nat.le_refl _) _)
  clear hw1
  have CK1 := (B.out.block gk hlt).trans CK.out
  have ck : w1.cell? ⟨gk, 0, none⟩ = some (.bool crc) := by simp [World.cell?, CK1]
  obtain ⟨d0, d1, d2, d3, d4, d5, d6, d7⟩ := XC.out.at.zero
  clear CK1
  go_wp2_with fail
  refine (HP.out _).mono ?_
  rintro e w2 ⟨rfl, hb⟩
  have B2 := Lib.hid (B.out.trans (hb.mono B.out.size))
  clear hb d0 d1 d2 d3 d4 d5 d6 d7 ck
  go_wp2_with fail
  go_ret
  exact ⟨rfl, B2.out⟩
set_option maxHeartbeats 6400000 in
set_option maxRecDepth 8000 in
theorem write_bin (HPB : PutBinOk) (L : List Ent) (n g cap : Nat) (crc : Bool) (gk : Nat) (w : World) (hn : n = L.length) (hm : n ≤ 1048576) (hcap : n ≤ cap) (hg : g < w.heap.size) (hsm : SmallL L) (hgk : gk < w.heap.size) (hck : w.heap[gk]? = some (.cells #[.bool crc] 4 (0, 0))) (h1 : RowE w g L) :
    Calls Tryz.prog 22 #[.agg #[.func (.func 38) #[] #[], .func (.func 39) #[] #[.pointer (some ⟨gk, 0, none⟩)], .func (.func 41) #[] #[.pointer (some ⟨gk, 0, none⟩)]], .slice (some ⟨g, 0, none⟩) n cap] w fun e w' => e = .returned (.tuple #[.string (putBwT L crc), .bool (putBwB L)]) ∧ Below w.heap.size w w' := by
  obtain ⟨i0, hi0, hz0, hz1, hz2⟩ := info_parts Tryz.info5
  have H1 := Lib.hid h1
  have HK := Lib.hid (fun w (hg : g < w.heap.size) (h : RowE w g L) => listOk_impl L n g cap w hn (by omega) hg hsm h)
  have HC := Lib.hid (fun w (hg : g < w.heap.size) (h : RowE w g L) => cardsOf_impl L n g cap w hn (by omega) hcap hg hsm h)
  have HG : Hid (∀ i, i < n → ∃ e, L[i]? = some e ∧ esz e ≤ 4194304) := Lib.hid (fun i hi => by obtain ⟨e, he⟩ := getE' (L := L) (i := i) (by omega); exact ⟨e, he, hsm.get he⟩)
  have HNo := Lib.hid (putBw_no (L := L) (crc := crc))
  have HBad := Lib.hid (fun i e (he : L[i]? = some e) h => putBw_bad (crc := crc) he h)
  have HYes : Hid (listOkv L = true → (∀ j, j < n → ∀ e, L[j]? = some e → binFits e = true) → putBwB L = true ∧ putBwT L crc = bwT crc (cardsv L) n ++ binTextv lastC crc) := Lib.hid (by rw [hn]; exact putBw_yes)
  have HQ : Hid (listOkv L = true → (cardsv L).length = n ∧ n ≤ 30) := Lib.hid (fun h => ⟨by rw [hn]; exact cardsv_len h, by rw [hn]; exact listOk_len h⟩)
  have HSQ := Lib.hid (smallQ_of hsm)
  have HLast := Lib.hid (binText207 lastC crc)
  have HPut : Hid (∀ (q0 q1 q2 q3 q4 q5 : Int) (qp qd : ByteArray) (w' : World), Below w.heap.size w w' → qp.size ≤ 4194304 → qd.size ≤ 4194304 → Calls Tryz.prog 39 #[.agg #[.int .i64 q0, .int .i64 q1, .int .i64 q2, .int .i64 q3, .int .i64 q4, .int .i64 q5, .string qp, .string qd], .pointer (some ⟨gk, 0, none⟩)] w' fun e w'' => e = .returned (.string (binTextv ⟨q0, q1, q2, q3, q4, q5, qp, qd⟩ crc)) ∧ Below w'.heap.size w' w'') := Lib.hid (fun q0 q1 q2 q3 q4 q5 qp qd w' hb hp hd => bfmt1_any HPB q0 q1 q2 q3 q4 q5 qp qd crc gk w' hp hd ((hb.block gk hgk).trans hck))
  generalize putBwB L = ok at HNo HBad HYes
  generalize putBwT L crc = r at HNo HBad HYes
  generalize listOkv L = lk at HK HNo HYes HQ
  generalize cardsv L = Q at HC HYes HQ HSQ
  clear h1 hsm hn hgk hck HPB
  go_enter Tryz.func22, Tryz.ntmps22
  go_upto_region 1 with fail
  generalize hw1 : World.alloc w _ = wb
  have BF : Hid (wb.heap[w.heap.size]? = some (.cells #[.func (.func 38) #[] #[], .func (.func 39) #[] #[.pointer (some ⟨gk, 0, none⟩)], .func (.func 41) #[] #[.pointer (some ⟨gk, 0, none⟩)]] 50 (0, 0))) := Lib.hid (by rw [← hw1]; exact heap_newW _ _ _ rfl)
  have B : Hid (Below w.heap.size w wb) := Lib.hid (by rw [← hw1]; exact (Below.refl _ _).alloc (Nat.le_refl _) _)
  clear hw1
  go_wp2_with fail
  refine (HK.out _ (by have := B.out.size; omega) (H1.out.below B.out hg)).mono ?_
  rintro e w1 ⟨rfl, hb⟩
  replace BF := Lib.hid ((hb.block _ (Array.getElem?_eq_some_iff.1 BF.out).1).trans BF.out)
  replace B := Lib.hid (btE B.out hb)
  clear hb
  cases lk with
  | false =>
    have HF := Lib.hid (HNo.out rfl)
    go_wp2_with fail
    go_ret2
    exact ⟨by rw [HF.out.1, HF.out.2]; rfl, B.out⟩
  | true =>
    obtain ⟨hql, hn30⟩ := HQ.out rfl
    have HY := Lib.hid (HYes.out rfl)
    clear HK HNo HYes HQ
    go_wp2_with fail
    refine (HC.out _ (by have := B.out.size; omega) (H1.out.below B.out hg)).mono ?_
    rintro e w2 ⟨v, rfl, ho, hb⟩
    have OC := Lib.hid ho
    obtain ⟨gc, cc, rfl, hrc, zc, _, _⟩ := ho.open
    replace BF := Lib.hid ((hb.block _ (Array.getElem?_eq_some_iff.1 BF.out).1).trans BF.out)
    replace B := Lib.hid (btE B.out hb)
    have O0 : Hid (OwnB w2 w.heap.size (.slice none 0 0) []) := Lib.hid ⟨rfl, .inl ⟨rfl, rfl⟩⟩
    clear ho hrc hb HC
    go_wp2_with fail
    go_loopw [6, 7, 8, 15] (fun v _ _ u wr => ∃ i : Nat, u = .int .i64 i ∧ i ≤ n ∧ (∀ j, j < i → ∀ e, L[j]? = some e → binFits e = true) ∧ OwnB wr w.heap.size v (bwT crc Q i).data.toList ∧ OwnC wr w1.heap.size (.slice (some ⟨gc, 0, none⟩) Q.length cc) Q ∧ wr.heap[w.heap.size]? = some (.cells #[.func (.func 38) #[] #[], .func (.func 39) #[] #[.pointer (some ⟨gk, 0, none⟩)], .func (.func 41) #[] #[.pointer (some ⟨gk, 0, none⟩)]] 50 (0, 0)) ∧ Below w.heap.size w wr) (fun _ _ _ u _ => n - (intOf u).toNat)
    case atStart => exact ⟨0, rfl, Nat.zero_le _, fun j hj => by omega, O0.out, OC.out, BF.out, B.out⟩
    case round =>
      obtain ⟨i, rfl, hi, hf, ho, hoc, hbf, hb⟩ := hrel
      clear O0 OC BF B
      have HFt := Lib.hid hf
      have O := Lib.hid ho
      have OC := Lib.hid hoc
      have BF := Lib.hid hbf
      have B := Lib.hid hb
      have hszB := B.out.size
      clear hf ho hoc hbf hb
      have hle := bwT_le (crc := crc) HSQ.out i (by omega)
      by_cases hlt : i < n
      · have hlt2 : (i : Int) < (n : Int) := by omega
        have hlt3 : (i : Int) < (Q.length : Int) := by omega
        obtain ⟨e, he, hz⟩ := HG.out i hlt
        obtain ⟨q, hq⟩ : ∃ q, Q[i]? = some q := ⟨Q[i], List.getElem?_eq_getElem (by omega)⟩
        have hqs := HSQ.out _ (List.mem_of_getElem? hq)
        have hcl := binText207 q crc
        have HSt := Lib.hid (bwT_step (crc := crc) hq)
        have HB2 := Lib.hid (HBad.out i e he)
        have HFn : Hid (binFits e = true → ∀ j, j < i + 1 → ∀ e, L[j]? = some e → binFits e = true) := Lib.hid (fun h j hj e' he' => by
          by_cases hji : j = i
          · subst hji; rw [he] at he'; obtain rfl := Option.some.inj he'; exact h
          · exact HFt.out j (by omega) e' he')
        have C10 := Lib.hid ((H1.out.below B.out hg).ten he)
        obtain ⟨d0, d1, d2, d3, d4, d5, d6, d7⟩ := OC.out.row.1.cols hq
        clear he hq HBad HG
        obtain ⟨k, p, l, m, u1, gi, t, us, gr, b⟩ := e
        obtain ⟨hp, hl, hus, hgr, hbz⟩ := small_parts hz
        have HO := Lib.hid (fun w => binFits_impl k p l m u1 gi t us gr b w hp hl hus hgr)
        simp only at C10
        clear hz hp hl hus hgr hbz
        generalize binFits ⟨k, p, l, m, u1, gi, t, us, gr, b⟩ = fb at HB2 HFn HO
        obtain ⟨q0, q1, q2, q3, q4, q5, qp, qd⟩ := q
        simp only at d0 d1 d2 d3 d4 d5 d6 d7 hqs hcl
        have NB : Below wr.heap.size wr (wr.alloc (.cells (Card.cells ⟨q0, q1, q2, q3, q4, q5, qp, qd⟩).toArray 44)) := (Below.refl _ _).alloc (Nat.le_refl _) _
        have XC := Lib.hid (CardO.new wr ⟨q0, q1, q2, q3, q4, q5, qp, qd⟩)
        have zgx : g < wr.heap.size := by omega
        have zbf := (Array.getElem?_eq_some_iff.1 BF.out).1
        replace O := Lib.hid (ownB_belowW O.out NB)
        replace OC := Lib.hid (OC.out.keep NB)
        replace BF := Lib.hid ((NB.block _ zbf).trans BF.out)
        replace B := Lib.hid (btE B.out NB)
        have zx := XC.out.lt
        have HNB := Lib.hid NB
        have hsa : (wr.alloc (.cells (Card.cells ⟨q0, q1, q2, q3, q4, q5, qp, qd⟩).toArray 44)).heap.size = wr.heap.size + 1 := by simp
        simp only [Card.cells] at XC O OC BF B zx HNB hsa
        clear NB
        go_upto_region 7 with fail
        obtain ⟨bx, hbx⟩ : ∃ bx, bx = wr.heap.size := ⟨_, rfl⟩
        generalize World.alloc wr _ = w3 at O OC BF B XC zx HNB hsa ⊢
        clear d0 d1 d2 d3 d4 d5 d6 d7
        have hs3 : wr.heap.size ≤ w3.heap.size := by omega
        have zb3 : w.heap.size < w3.heap.size := by omega
        have KC : Hid (∀ w', Below w3.heap.size w3 w' → w'.cell? ⟨w.heap.size, 0, none⟩ = some (.func (.func 38) #[] #[]) ∧ (w'.cell? ⟨g, i * 10, none⟩ = some (.int .i64 k) ∧ w'.cell? ⟨g, i * 10 + 1, none⟩ = some (.string p) ∧ w'.cell? ⟨g, i * 10 + 2, none⟩ = some (.string l) ∧ w'.cell? ⟨g, i * 10 + 3, none⟩ = some (.int .i64 m) ∧ w'.cell? ⟨g, i * 10 + 4, none⟩ = some (.int .i64 u1) ∧ w'.cell? ⟨g, i * 10 + 5, none⟩ = some (.int .i64 gi) ∧ w'.cell? ⟨g, i * 10 + 6, none⟩ = some (.int .i64 t) ∧ w'.cell? ⟨g, i * 10 + 7, none⟩ = some (.string us) ∧ w'.cell? ⟨g, i * 10 + 8, none⟩ = some (.string gr) ∧ w'.cell? ⟨g, i * 10 + 9, none⟩ = some (.string b))) := Lib.hid (fun w' hb => by
          have h9 := (hb.block _ zb3).trans BF.out
          obtain ⟨c0, c1, c2, c3, c4, c5, c6, c7, c8, c9⟩ := C10.out
          have hm : ∀ o, w'.cell? ⟨g, o, none⟩ = wr.cell? ⟨g, o, none⟩ := fun o => (hb.cell (p := ⟨g, o, none⟩) (by show g < w3.heap.size; omega)).trans (HNB.out.cell (p := ⟨g, o, none⟩) zgx)
          exact ⟨by simp [World.cell?, h9], (hm _).trans c0, (hm _).trans c1, (hm _).trans c2, (hm _).trans c3, (hm _).trans c4, (hm _).trans c5, (hm _).trans c6, (hm _).trans c7, (hm _).trans c8, (hm _).trans c9⟩)
        clear hsa
        refine wp_region_inv (by kernel_rfl) (fun w' => Below w3.heap.size w3 w') (fun x y => Below x.heap.size x y) (fun dq vq _ => match dq with | 20 => vq = .pointer (some ⟨w.heap.size, 0, none⟩) | 21 => vq = .func (.func 38) #[] #[] | 22 => vq = .slice (some ⟨g, 0, none⟩) n cap | 23 => vq = .int .i64 (i : Int) | 24 => vq = .pointer (some ⟨g, i * 10, none⟩) | 25 => vq = .agg #[.int .i64 k, .string p, .string l, .int .i64 m, .int .i64 u1, .int .i64 gi, .int .i64 t, .string us, .string gr, .string b] | 26 => vq = .bool fb | 27 => vq = .bool (!fb) | _ => True) (by kernel_rfl) ((Below.refl _ _).drew) (fun _ _ _ _ _ _ h => h) ?hops ?hend
        case hops =>
          simp only [List.forall_mem_cons]
          refine ⟨?o20, ?o21, ?o22, ?o23, ?o24, ?o25, ?o26, ?o27, fun _ h => by cases h⟩
          case o20 =>
            intro Q a w2 hC hV hI
            have e2 : a.eval (.tmp 2) = .pointer (some ⟨w.heap.size, 0, none⟩) := (hI 2 (by simp [Op.operands]) (by kernel_rfl)).trans rfl
            have f2 : a.tmps.getD 2 undef = .pointer (some ⟨w.heap.size, 0, none⟩) := e2
            have g2 : a.tmps[2]?.getD undef = .pointer (some ⟨w.heap.size, 0, none⟩) := by rw [← Array.getD_eq_getD_getElem?]; exact e2
            refine op_val (.pointer (some ⟨w.heap.size, 0, none⟩)) ?_ hC (Below.refl _ _) (by intro d hd; cases hd; rfl)
            (clear hV hI hC; go_simp <;> (first | rfl | simp | (rw [IntKind.wrap_i64]; omega)))
          case o21 =>
            intro Q a w2 hC hV hI
            have e20 : a.eval (.tmp 20) = .pointer (some ⟨w.heap.size, 0, none⟩) := hV 20 (by simp [Op.operands]) (by kernel_rfl)
            have f20 : a.tmps.getD 20 undef = .pointer (some ⟨w.heap.size, 0, none⟩) := e20
            have g20 : a.tmps[20]?.getD undef = .pointer (some ⟨w.heap.size, 0, none⟩) := by rw [← Array.getD_eq_getD_getElem?]; exact e20
            have hK := KC.out w2 hC
            refine op_val (.func (.func 38) #[] #[]) ?_ hC (Below.refl _ _) (by intro d hd; cases hd; rfl)
            (clear hV hI hC; go_simp <;> (first | rfl | simp | (rw [IntKind.wrap_i64]; omega)))
          case o22 =>
            intro Q a w2 hC hV hI
            have e1 : a.eval (.tmp 1) = .slice (some ⟨g, 0, none⟩) n cap := (hI 1 (by simp [Op.operands]) (by kernel_rfl)).trans rfl
            have f1 : a.tmps.getD 1 undef = .slice (some ⟨g, 0, none⟩) n cap := e1
            have g1 : a.tmps[1]?.getD undef = .slice (some ⟨g, 0, none⟩) n cap := by rw [← Array.getD_eq_getD_getElem?]; exact e1
            refine op_val (.slice (some ⟨g, 0, none⟩) n cap) ?_ hC (Below.refl _ _) (by intro d hd; cases hd; rfl)
            (clear hV hI hC; go_simp <;> (first | rfl | simp | (rw [IntKind.wrap_i64]; omega)))
          case o23 =>
            intro Q a w2 hC hV hI
            have e7 : a.eval (.tmp 7) = .int .i64 (i : Int) := (hI 7 (by simp [Op.operands]) (by kernel_rfl)).trans rfl
            have f7 : a.tmps.getD 7 undef = .int .i64 (i : Int) := e7
            have g7 : a.tmps[7]?.getD undef = .int .i64 (i : Int) := by rw [← Array.getD_eq_getD_getElem?]; exact e7
            refine op_val (.int .i64 (i : Int)) ?_ hC (Below.refl _ _) (by intro d hd; cases hd; rfl)
            (clear hV hI hC; go_simp <;> (first | rfl | simp | (rw [IntKind.wrap_i64]; omega)))
          case o24 =>
            intro Q a w2 hC hV hI
            have e22 : a.eval (.tmp 22) = .slice (some ⟨g, 0, none⟩) n cap := hV 22 (by simp [Op.operands]) (by kernel_rfl)
            have f22 : a.tmps.getD 22 undef = .slice (some ⟨g, 0, none⟩) n cap := e22
            have g22 : a.tmps[22]?.getD undef = .slice (some ⟨g, 0, none⟩) n cap := by rw [← Array.getD_eq_getD_getElem?]; exact e22
            have e23 : a.eval (.tmp 23) = .int .i64 (i : Int) := hV 23 (by simp [Op.operands]) (by kernel_rfl)
            have f23 : a.tmps.getD 23 undef = .int .i64 (i : Int) := e23
            have g23 : a.tmps[23]?.getD undef = .int .i64 (i : Int) := by rw [← Array.getD_eq_getD_getElem?]; exact e23
            refine op_val (.pointer (some ⟨g, i * 10, none⟩)) ?_ hC (Below.refl _ _) (by intro d hd; cases hd; rfl)
            (clear hV hI hC; go_simp <;> (first | rfl | simp | (rw [IntKind.wrap_i64]; omega)))
          case o25 =>
            intro Q a w2 hC hV hI
            have e24 : a.eval (.tmp 24) = .pointer (some ⟨g, i * 10, none⟩) := hV 24 (by simp [Op.operands]) (by kernel_rfl)
            have f24 : a.tmps.getD 24 undef = .pointer (some ⟨g, i * 10, none⟩) := e24
            have g24 : a.tmps[24]?.getD undef = .pointer (some ⟨g, i * 10, none⟩) := by rw [← Array.getD_eq_getD_getElem?]; exact e24
            have hK := KC.out w2 hC
            refine op_val (.agg #[.int .i64 k, .string p, .string l, .int .i64 m, .int .i64 u1, .int .i64 gi, .int .i64 t, .string us, .string gr, .string b]) ?_ hC (Below.refl _ _) (by intro d hd; cases hd; rfl)
            (clear hV hI hC; go_simp <;> (first | rfl | simp | (rw [IntKind.wrap_i64]; omega)))
          case o26 =>
            intro Q a w2 hC hV hI
            have e21 : a.eval (.tmp 21) = .func (.func 38) #[] #[] := hV 21 (by simp [Op.operands, Call.operands]) (by kernel_rfl)
            have f21 : a.tmps.getD 21 undef = .func (.func 38) #[] #[] := e21
            have g21 : a.tmps[21]?.getD undef = .func (.func 38) #[] #[] := by rw [← Array.getD_eq_getD_getElem?]; exact e21
            have e25 : a.eval (.tmp 25) = .agg #[.int .i64 k, .string p, .string l, .int .i64 m, .int .i64 u1, .int .i64 gi, .int .i64 t, .string us, .string gr, .string b] := hV 25 (by simp [Op.operands, Call.operands]) (by kernel_rfl)
            have f25 : a.tmps.getD 25 undef = .agg #[.int .i64 k, .string p, .string l, .int .i64 m, .int .i64 u1, .int .i64 gi, .int .i64 t, .string us, .string gr, .string b] := e25
            have g25 : a.tmps[25]?.getD undef = .agg #[.int .i64 k, .string p, .string l, .int .i64 m, .int .i64 u1, .int .i64 gi, .int .i64 t, .string us, .string gr, .string b] := by rw [← Array.getD_eq_getD_getElem?]; exact e25
            refine op_call (f := 38) (args := #[.agg #[.int .i64 k, .string p, .string l, .int .i64 m, .int .i64 u1, .int .i64 gi, .int .i64 t, .string us, .string gr, .string b]]) (R := fun v y => v = .bool fb ∧ Below w2.heap.size w2 y) ?_ ((HO.out w2).mono ?_) ?_
            · (clear hV hI hC; go_simp <;> (first | rfl | simp | (rw [IntKind.wrap_i64]; omega)))
            · rintro e y ⟨rfl, hb⟩; exact ⟨_, rfl, rfl, hb⟩
            · rintro v y ⟨rfl, hb⟩; exact ⟨hC.trans (hb.mono hC.size), hb, by intro d hd; cases hd; rfl⟩
          case o27 =>
            intro Q a w2 hC hV hI
            have e26 : a.eval (.tmp 26) = .bool fb := hV 26 (by simp [Op.operands]) (by kernel_rfl)
            have f26 : a.tmps.getD 26 undef = .bool fb := e26
            have g26 : a.tmps[26]?.getD undef = .bool fb := by rw [← Array.getD_eq_getD_getElem?]; exact e26
            refine op_val (.bool (!fb)) ?_ hC (Below.refl _ _) (by intro d hd; cases hd; rfl)
            (clear hV hI hC; go_simp <;> (first | rfl | simp | (rw [IntKind.wrap_i64]; omega)))
        case hend =>
          intro f w4 hC hall
          simp only [List.forall_mem_cons] at hall
          obtain ⟨h20, h21, h22, h23, h24, h25, h26, h27, -⟩ := hall
          replace h20 : f 20 = .pointer (some ⟨w.heap.size, 0, none⟩) := h20 20 rfl
          replace h21 : f 21 = .func (.func 38) #[] #[] := h21 21 rfl
          replace h22 : f 22 = .slice (some ⟨g, 0, none⟩) n cap := h22 22 rfl
          replace h23 : f 23 = .int .i64 (i : Int) := h23 23 rfl
          replace h24 : f 24 = .pointer (some ⟨g, i * 10, none⟩) := h24 24 rfl
          replace h25 : f 25 = .agg #[.int .i64 k, .string p, .string l, .int .i64 m, .int .i64 u1, .int .i64 gi, .int .i64 t, .string us, .string gr, .string b] := h25 25 rfl
          replace h26 : f 26 = .bool fb := h26 26 rfl
          replace h27 : f 27 = .bool (!fb) := h27 27 rfl
          simp only [putAll, Act.put, List.setIfInBounds_toArray, List.set_cons_succ, List.set_cons_zero, h20, h21, h22, h23, h24, h25, h26, h27]
          clear h20 h21 h22 h23 h24 h25 h26 h27
          clear KC HO HNB C10
          replace O := Lib.hid (ownB_belowW O.out hC)
          replace OC := Lib.hid (OC.out.keep hC)
          replace XC := Lib.hid (XC.out.below hC zx)
          replace BF := Lib.hid ((hC.block _ zb3).trans BF.out)
          replace B := Lib.hid (btE B.out hC)
          clear hC zb3 hs3 zx zgx zbf hbx
          cases fb with
          | false =>
            have HF := Lib.hid (HB2.out rfl)
            simp only [Bool.not_false]
            clear HSt HFn HPut HLast HY hle hcl hqs hszB HFt
            go_wp2_with fail
            go_ret2
            exact ⟨by rw [HF.out.1, HF.out.2]; rfl, B.out⟩
          | true =>
            have HFi := Lib.hid (HFn.out rfl)
            obtain ⟨d0, d1, d2, d3, d4, d5, d6, d7⟩ := XC.out.at.zero
            have HP := Lib.hid (fun w' hb => HPut.out q0 q1 q2 q3 q4 q5 qp qd w' hb (by omega) (by omega))
            generalize binTextv ⟨q0, q1, q2, q3, q4, q5, qp, qd⟩ crc = x at HP HSt hcl
            obtain ⟨T, hT⟩ : ∃ T, bwT crc Q i = T := ⟨_, rfl⟩
            rw [hT] at HSt hle O
            clear hT HB2 HFn HPut
            have p1 : w4.cell? ⟨w.heap.size, 1, none⟩ = some (.func (.func 39) #[] #[.pointer (some ⟨gk, 0, none⟩)]) := by simp [World.cell?, BF.out]
            have hsz4 := B.out.size
            have KL := Lib.hid (show T.size ≤ 4194511 * i from hle)
            have KC := Lib.hid hcl
            have KS := Lib.hid hqs
            simp only [Bool.not_true]
            clear HLast HY hle hcl hqs hszB HFt hsz4
            go_wp2_with fail
            refine (HP.out _ B.out).mono ?_
            rintro e w5 ⟨rfl, hb⟩
            replace O := Lib.hid (ownB_belowW O.out hb)
            replace OC := Lib.hid (OC.out.keep hb)
            replace BF := Lib.hid ((hb.block _ (Array.getElem?_eq_some_iff.1 BF.out).1).trans BF.out)
            replace B := Lib.hid (btE B.out hb)
            clear hb d0 d1 d2 d3 d4 d5 d6 d7 HP XC p1
            have zl : T.data.toList.length = T.size := Array.length_toList
            have hsz4 := B.out.size
            go_wp2_with (at_builtin; refine Lib.wpList_append_own_string _ rfl _ _ 66 9 rfl w.heap.size 5 i0 Tryz.underlying66 Tryz.underlying9 hi0 hz0 hz1 hz2 _ _ _ rfl O.out x rfl ?pp ?pq ?pr ?_)
            case pp => have hle := KL.out; have hcl := KC.out; have hqs := KS.out; simp only [maxLen]; omega
            case pq => have hle := KL.out; have hcl := KC.out; have hqs := KS.out; omega
            case pr => omega
            intro v9 w9 hown hgrow hnil
            have O9 : OwnB w9 w.heap.size v9 (T.data.toList ++ x.data.toList) := textW (by have hle := KL.out; have hcl := KC.out; have hqs := KS.out; simp <;> omega) hown
            rw [show T.data.toList ++ x.data.toList = (T ++ x).data.toList from by simp] at O9
            have O10 := Lib.hid O9
            have C9 := Lib.hid (OC.out.kept hgrow (rowB_neW OC.out O.out))
            have F9 := Lib.hid ((hgrow.block _ (Array.getElem?_eq_some_iff.1 BF.out).1 (own_neW O.out BF.out (by decide))).trans BF.out)
            have B9 : Hid (Below w.heap.size w w9) := Lib.hid (B.out.grown hgrow (by omega) (fun b hb => (World.ownsRow.lt O.out b hb).1))
            clear hown hgrow hnil O9 O OC BF B
            go_wp2_with fail
            go_roundw
            case rel => exact ⟨i + 1, by go_num, by omega, HFi.out, by rw [HSt.out]; exact O10.out, C9.out, F9.out, B9.out⟩
            case measure => simp [intOf]; omega
      · obtain rfl : i = n := by omega
        have hlt2 : ¬ (i : Int) < (Q.length : Int) := by omega
        have HF := Lib.hid (HY.out HFt.out)
        have hll := HLast.out
        obtain ⟨x, hx⟩ : ∃ x, binTextv lastC crc = x := ⟨_, rfl⟩
        have HP := Lib.hid (fun w' hb => HPut.out 0 0 0 0 1 0 ⟨#[84, 82, 65, 73, 76, 69, 82, 33, 33, 33]⟩ ⟨#[]⟩ w' hb (by decide) (by decide))
        rw [show (binTextv ⟨0, 0, 0, 0, 1, 0, ⟨#[84, 82, 65, 73, 76, 69, 82, 33, 33, 33]⟩, ⟨#[]⟩⟩ crc) = x from hx] at HP
        rw [hx] at HF hll
        have hp1 : lastC.Path.size = 10 := rfl
        have hp2 : lastC.Data.size = 0 := rfl
        have hll2 : x.size ≤ 1000 := by omega
        obtain ⟨T, hT⟩ : ∃ T, bwT crc Q i = T := ⟨_, rfl⟩
        rw [hT] at HF hle O
        clear hT hx hll HY hp1 hp2 HPut
        have zl : T.data.toList.length = T.size := Array.length_toList
        have p1 : wr.cell? ⟨w.heap.size, 1, none⟩ = some (.func (.func 39) #[] #[.pointer (some ⟨gk, 0, none⟩)]) := by simp [World.cell?, BF.out]
        go_wp2_with fail
        refine (HP.out _ B.out).mono ?_
        rintro e w4 ⟨rfl, hb⟩
        replace O := Lib.hid (ownB_belowW O.out hb)
        replace B := Lib.hid (btE B.out hb)
        clear hb HP p1
        have hsz4 := B.out.size
        go_wp2_with (at_builtin; refine Lib.wpList_append_own_string _ rfl _ _ 66 9 rfl w.heap.size 5 i0 Tryz.underlying66 Tryz.underlying9 hi0 hz0 hz1 hz2 _ _ _ rfl O.out x rfl ?pp2 ?pq2 ?pr2 ?_)
        case pp2 => simp only [maxLen]; omega
        case pq2 => omega
        case pr2 => omega
        intro v9 w9 hown hgrow hnil
        have O9 : OwnB w9 w.heap.size v9 (T.data.toList ++ x.data.toList) := textW (by simp <;> omega) hown
        have hc := O9.conv
        rw [ba_appW] at hc
        have B9 : Hid (Below w.heap.size w w9) := Lib.hid (B.out.grown hgrow (by omega) (fun b hb => (World.ownsRow.lt O.out b hb).1))
        clear hown hgrow hnil O9 O B
        go_wp2_with fail
        go_ret2
        exact ⟨by rw [HF.out.1, HF.out.2]; rfl, B9.out⟩
end Go.Proofs.YtancidbbkoeokaaGreat

/- Contracts of impl.pathOfInode, impl.entryOf and impl.EntriesOf. -/
namespace Go.Proofs.YtancidbbkoeokaaGreat
open Go.ChangeShapes Go.WideShapes Go.ChangeAt Go.RowKit Go.Deep

theorem pathOf_any (C : List Card) (x : Int) (n g cap : Nat) (w : World) (hn : n = C.length) (hm : n ≤ 4194304) (_hg : g < w.heap.size) (hsm : SmallC C) (hx0 : -9223372036854775808 ≤ x) (h1 : RowC w g C) :
    Calls Tryz.prog 88 #[.slice (some ⟨g, 0, none⟩) n cap, .int .i64 x] w fun e w' => e = .returned (.string (pathOfIno C x)) ∧ Below w.heap.size w w' := by
  have HV : Hid (pathOfIno C x = if x < 1 ∨ (n : Int) < x then ⟨#[]⟩ else (C.getD (x - 1).toNat zeroCd).Path) := Lib.hid (by rw [hn]; rfl)
  by_cases hx : x < 1
  · have HF : Hid (pathOfIno C x = ⟨#[]⟩) := Lib.hid (by rw [HV.out, if_pos (.inl hx)])
    generalize pathOfIno C x = r at HF
    clear HV h1 hsm hn
    go_enter Tryz.func88, Tryz.ntmps88
    go_wp2_with fail
    go_ret
    exact ⟨by rw [HF.out]; rfl, Below.refl _ _⟩
  by_cases hx2 : (n : Int) < x
  · have HF : Hid (pathOfIno C x = ⟨#[]⟩) := Lib.hid (by rw [HV.out, if_pos (.inr hx2)])
    generalize pathOfIno C x = r at HF
    clear HV h1 hsm hn
    go_enter Tryz.func88, Tryz.ntmps88
    go_wp2_with fail
    go_ret
    exact ⟨by rw [HF.out]; rfl, Below.refl _ _⟩
  obtain ⟨j, hj⟩ : ∃ j : Nat, x = (j : Int) + 1 := ⟨(x - 1).toNat, by omega⟩
  subst hj
  have hlt : j < n := by omega
  obtain ⟨c, hc⟩ := getC' (L := C) (i := j) (by omega)
  have hz := hsm c (List.mem_of_getElem? hc)
  have HF : Hid (pathOfIno C ((j : Int) + 1) = c.Path) := Lib.hid (by rw [HV.out, if_neg (by omega), show ((j : Int) + 1 - 1).toNat = j from by omega, getD_ofC hc])
  obtain ⟨c0, c1, c2, c3, c4, c5, c6, c7⟩ := h1.cols hc
  obtain ⟨a0, a1, a2, a3, a4, a5, p, d⟩ := c
  have HC := Lib.hid (fun w => clone_any p w (by unfold szC at hz; simp only at hz; omega))
  generalize pathOfIno C ((j : Int) + 1) = r at HF
  have hj2 : (j : Int) + 1 - 1 = (j : Int) := by omega
  have hj3 : (j : Int) < (n : Int) := by omega
  clear HV h1 hsm hn hc hz
  go_enter Tryz.func88, Tryz.ntmps88
  go_wp2_with fail
  refine (HC.out _).mono ?_
  rintro e w1 ⟨rfl, hb⟩
  go_wp2_with fail
  go_ret
  exact ⟨by rw [HF.out]; rfl, hb⟩
set_option maxHeartbeats 6400000 in
set_option maxRecDepth 8000 in
theorem entryOf_any (C : List Card) (i : Nat) (ino mo u1 gi cn t : Int) (p d : ByteArray) (n g cap : Nat) (w : World) (hc : C[i]? = some ⟨ino, mo, u1, gi, cn, t, p, d⟩) (hn : n = C.length) (hm : n ≤ 4194304) (hg : g < w.heap.size) (hsm : SmallC C) (hi0 : -9223372036854775808 ≤ ino) (hm0 : -9223372036854775808 ≤ mo) (hm1 : mo ≤ 9223372036854775807) (h1 : RowC w g C) :
    Calls Tryz.prog 75 #[.slice (some ⟨g, 0, none⟩) n cap, .int .i64 i] w fun e w' => e = .returned (.agg (entI C i ⟨ino, mo, u1, gi, cn, t, p, d⟩).cells.toArray) ∧ Below w.heap.size w w' := by
  have hlt : i < n := by rw [hn]; exact (List.getElem?_eq_some_iff.1 hc).1
  have hlt2 : (i : Int) < (n : Int) := by omega
  have H1 := Lib.hid h1
  have HP := Lib.hid (fun w (hg : g < w.heap.size) (h : RowC w g C) => pathOf_any C ino n g cap w hn hm hg hsm hi0 h)
  have hz := hsm _ (List.mem_of_getElem? hc)
  unfold szC at hz
  simp only at hz
  have HC := Lib.hid (fun w => clone_any p w (by omega))
  have HD := Lib.hid (fun w => clone_any d w (by omega))
  have hb := i64_and4095 mo
  have hnb := i64_not4095 mo hm0 hm1
  obtain ⟨md, hmd⟩ : ∃ x, mo % 4096 = x := ⟨_, rfl⟩
  have HR : Hid (entI C i ⟨ino, mo, u1, gi, cn, t, p, d⟩ = if mo - md = 16384 then ⟨1, p, ⟨#[]⟩, md, u1, gi, t, ⟨#[]⟩, ⟨#[]⟩, ⟨#[]⟩⟩ else if mo - md = 40960 then ⟨2, p, d, md, u1, gi, t, ⟨#[]⟩, ⟨#[]⟩, ⟨#[]⟩⟩ else if ino = (i : Int) + 1 then ⟨0, p, ⟨#[]⟩, md, u1, gi, t, ⟨#[]⟩, ⟨#[]⟩, d⟩ else ⟨3, p, (pathOfIno C ino), md, u1, gi, t, ⟨#[]⟩, ⟨#[]⟩, ⟨#[]⟩⟩) := Lib.hid (by subst hmd; rfl)
  rw [hmd] at hb hnb
  generalize entI C i ⟨ino, mo, u1, gi, cn, t, p, d⟩ = r at HR
  generalize pathOfIno C ino = pa at HP HR
  obtain ⟨c0, c1, c2, c3, c4, c5, c6, c7⟩ := h1.cols hc
  simp only at c0 c1 c2 c3 c4 c5 c6 c7
  clear h1 hc hsm hn hmd hz
  go_enter Tryz.func75, Tryz.ntmps75
  go_upto_region 2 with fail
  generalize hw1 : World.alloc (World.alloc w _) _ = w1
  have XR : Hid (EntO w1 w.heap.size ⟨0, ⟨#[]⟩, ⟨#[]⟩, 0, 0, 0, 0, ⟨#[]⟩, ⟨#[]⟩, ⟨#[]⟩⟩) := Lib.hid (by rw [← hw1]; exact (EntO.new w ⟨0, ⟨#[]⟩, ⟨#[]⟩, 0, 0, 0, 0, ⟨#[]⟩, ⟨#[]⟩, ⟨#[]⟩⟩).below (B := w.heap.size + 1) ((Below.refl _ _).alloc (by simp) _) (by omega))
  have XC : Hid (CardO w1 (w.heap.size + 1) ⟨ino, mo, u1, gi, cn, t, p, d⟩) := Lib.hid (by rw [← hw1]; exact CardO.newAt (w.alloc (.cells (Ent.cells ⟨0, ⟨#[]⟩, ⟨#[]⟩, 0, 0, 0, 0, ⟨#[]⟩, ⟨#[]⟩, ⟨#[]⟩⟩).toArray 41)) ⟨ino, mo, u1, gi, cn, t, p, d⟩ _ (by simp))
  have B1 : Hid (Below w.heap.size w w1) := Lib.hid (by rw [← hw1]; exact ((Below.refl _ _).alloc (Nat.le_refl _) _).alloc (by simp) _)
  have hs1 : w1.heap.size = w.heap.size + 2 := by rw [← hw1]; simp
  clear hw1 c0 c1 c2 c3 c4 c5 c6 c7
  have KC : Hid (∀ w', Below w1.heap.size w1 w' → w'.cell? ⟨w.heap.size + 1, 1, none⟩ = some (.int .i64 mo) ∧ w'.cell? ⟨w.heap.size + 1, 2, none⟩ = some (.int .i64 u1) ∧ w'.cell? ⟨w.heap.size + 1, 3, none⟩ = some (.int .i64 gi) ∧ w'.cell? ⟨w.heap.size + 1, 5, none⟩ = some (.int .i64 t) ∧ w'.cell? ⟨w.heap.size + 1, 6, none⟩ = some (.string p)) := Lib.hid (fun w' hb => by
    obtain ⟨k0, k1, k2, k3, k4, k5, k6, k7⟩ := (XC.out.below hb (by omega)).at.zero
    exact ⟨k1, k2, k3, k5, k6⟩)
  refine wp_region_cut 14 (by kernel_rfl) (fun w' => Below w1.heap.size w1 w') (fun x y => Below x.heap.size x y) (vBxG 6 41 w1.heap.size #[.int .i64 0, .string ⟨#[]⟩, .string ⟨#[]⟩, .int .i64 0, .int .i64 0, .int .i64 0, .int .i64 0, .string ⟨#[]⟩, .string ⟨#[]⟩, .string ⟨#[]⟩] (fun dq vq => match dq with | 12 => vq = .pointer (some ⟨w.heap.size + 1, 6, none⟩) | 13 => vq = .string p | 14 => vq = .string p | 15 => vq = .pointer (some ⟨w.heap.size + 1, 1, none⟩) | 16 => vq = .int .i64 mo | 17 => vq = .int .i64 md | 18 => vq = .pointer (some ⟨w.heap.size + 1, 2, none⟩) | 19 => vq = .int .i64 u1 | 20 => vq = .pointer (some ⟨w.heap.size + 1, 3, none⟩) | 21 => vq = .int .i64 gi | 22 => vq = .pointer (some ⟨w.heap.size + 1, 5, none⟩) | 23 => vq = .int .i64 t | 24 => vq = .agg #[.int .i64 0, .string p, .string ⟨#[]⟩, .int .i64 md, .int .i64 u1, .int .i64 gi, .int .i64 t, .string ⟨#[]⟩, .string ⟨#[]⟩, .string ⟨#[]⟩] | _ => True)) (by kernel_rfl) (by kernel_rfl) ((Below.refl _ _).drew) (vBxG_keep _ _ _ _ _) (by simp) ?hops ?hend
  case hops =>
    simp only [List.take_succ_cons, List.take_zero, List.forall_mem_cons]
    refine ⟨?o12, ?o13, ?o14, ?o15, ?o16, ?o17, ?o18, ?o19, ?o20, ?o21, ?o22, ?o23, ?o24, ?o6, fun _ h => by cases h⟩
    case o12 =>
      intro Q a w2 hC hV hI
      have e5 : a.eval (.tmp 5) = .pointer (some ⟨w.heap.size + 1, 0, none⟩) := (hI 5 (by simp [Op.operands]) (by kernel_rfl)).trans rfl
      have f5 : a.tmps.getD 5 undef = .pointer (some ⟨w.heap.size + 1, 0, none⟩) := e5
      have g5 : a.tmps[5]?.getD undef = .pointer (some ⟨w.heap.size + 1, 0, none⟩) := by rw [← Array.getD_eq_getD_getElem?]; exact e5
      refine op_val (.pointer (some ⟨w.heap.size + 1, 6, none⟩)) ?_ hC (Below.refl _ _) (by intro d hd; cases hd; exact rfl)
      (clear hV hI hC; go_simp <;> (first | rfl | simp | (rw [IntKind.wrap_i64]; omega)))
    case o13 =>
      intro Q a w2 hC hV hI
      have e12 : a.eval (.tmp 12) = .pointer (some ⟨w.heap.size + 1, 6, none⟩) := hV 12 (by simp [Op.operands]) (by kernel_rfl)
      have f12 : a.tmps.getD 12 undef = .pointer (some ⟨w.heap.size + 1, 6, none⟩) := e12
      have g12 : a.tmps[12]?.getD undef = .pointer (some ⟨w.heap.size + 1, 6, none⟩) := by rw [← Array.getD_eq_getD_getElem?]; exact e12
      have hK := KC.out w2 hC
      refine op_val (.string p) ?_ hC (Below.refl _ _) (by intro d hd; cases hd; exact rfl)
      (clear hV hI hC; go_simp <;> (first | rfl | simp | (rw [IntKind.wrap_i64]; omega)))
    case o14 =>
      intro Q a w2 hC hV hI
      have e13 : a.eval (.tmp 13) = .string p := hV 13 (by simp [Op.operands, Call.operands]) (by kernel_rfl)
      have f13 : a.tmps.getD 13 undef = .string p := e13
      have g13 : a.tmps[13]?.getD undef = .string p := by rw [← Array.getD_eq_getD_getElem?]; exact e13
      refine op_call (f := 67) (args := #[.string p]) (R := fun v y => v = .string p ∧ Below w2.heap.size w2 y) ?_ ((HC.out w2).mono ?_) ?_
      · (clear hV hI hC; go_simp <;> (first | rfl | simp | (rw [IntKind.wrap_i64]; omega)))
      · rintro e y ⟨rfl, hb⟩; exact ⟨_, rfl, rfl, hb⟩
      · rintro v y ⟨rfl, hb⟩; exact ⟨hC.trans (hb.mono hC.size), hb, by intro d hd; cases hd; exact rfl⟩
    case o15 =>
      intro Q a w2 hC hV hI
      have e5 : a.eval (.tmp 5) = .pointer (some ⟨w.heap.size + 1, 0, none⟩) := (hI 5 (by simp [Op.operands]) (by kernel_rfl)).trans rfl
      have f5 : a.tmps.getD 5 undef = .pointer (some ⟨w.heap.size + 1, 0, none⟩) := e5
      have g5 : a.tmps[5]?.getD undef = .pointer (some ⟨w.heap.size + 1, 0, none⟩) := by rw [← Array.getD_eq_getD_getElem?]; exact e5
      refine op_val (.pointer (some ⟨w.heap.size + 1, 1, none⟩)) ?_ hC (Below.refl _ _) (by intro d hd; cases hd; exact rfl)
      (clear hV hI hC; go_simp <;> (first | rfl | simp | (rw [IntKind.wrap_i64]; omega)))
    case o16 =>
      intro Q a w2 hC hV hI
      have e15 : a.eval (.tmp 15) = .pointer (some ⟨w.heap.size + 1, 1, none⟩) := hV 15 (by simp [Op.operands]) (by kernel_rfl)
      have f15 : a.tmps.getD 15 undef = .pointer (some ⟨w.heap.size + 1, 1, none⟩) := e15
      have g15 : a.tmps[15]?.getD undef = .pointer (some ⟨w.heap.size + 1, 1, none⟩) := by rw [← Array.getD_eq_getD_getElem?]; exact e15
      have hK := KC.out w2 hC
      refine op_val (.int .i64 mo) ?_ hC (Below.refl _ _) (by intro d hd; cases hd; exact rfl)
      (clear hV hI hC; go_simp <;> (first | rfl | simp | (rw [IntKind.wrap_i64]; omega)))
    case o17 =>
      intro Q a w2 hC hV hI
      have e16 : a.eval (.tmp 16) = .int .i64 mo := hV 16 (by simp [Op.operands]) (by kernel_rfl)
      have f16 : a.tmps.getD 16 undef = .int .i64 mo := e16
      have g16 : a.tmps[16]?.getD undef = .int .i64 mo := by rw [← Array.getD_eq_getD_getElem?]; exact e16
      have q9 := hb
      refine op_val (.int .i64 md) ?_ hC (Below.refl _ _) (by intro d hd; cases hd; exact rfl)
      (clear hV hI hC; go_simp <;> (first | rfl | simp | (rw [IntKind.wrap_i64]; omega)))
    case o18 =>
      intro Q a w2 hC hV hI
      have e5 : a.eval (.tmp 5) = .pointer (some ⟨w.heap.size + 1, 0, none⟩) := (hI 5 (by simp [Op.operands]) (by kernel_rfl)).trans rfl
      have f5 : a.tmps.getD 5 undef = .pointer (some ⟨w.heap.size + 1, 0, none⟩) := e5
      have g5 : a.tmps[5]?.getD undef = .pointer (some ⟨w.heap.size + 1, 0, none⟩) := by rw [← Array.getD_eq_getD_getElem?]; exact e5
      refine op_val (.pointer (some ⟨w.heap.size + 1, 2, none⟩)) ?_ hC (Below.refl _ _) (by intro d hd; cases hd; exact rfl)
      (clear hV hI hC; go_simp <;> (first | rfl | simp | (rw [IntKind.wrap_i64]; omega)))
    case o19 =>
      intro Q a w2 hC hV hI
      have e18 : a.eval (.tmp 18) = .pointer (some ⟨w.heap.size + 1, 2, none⟩) := hV 18 (by simp [Op.operands]) (by kernel_rfl)
      have f18 : a.tmps.getD 18 undef = .pointer (some ⟨w.heap.size + 1, 2, none⟩) := e18
      have g18 : a.tmps[18]?.getD undef = .pointer (some ⟨w.heap.size + 1, 2, none⟩) := by rw [← Array.getD_eq_getD_getElem?]; exact e18
      have hK := KC.out w2 hC
      refine op_val (.int .i64 u1) ?_ hC (Below.refl _ _) (by intro d hd; cases hd; exact rfl)
      (clear hV hI hC; go_simp <;> (first | rfl | simp | (rw [IntKind.wrap_i64]; omega)))
    case o20 =>
      intro Q a w2 hC hV hI
      have e5 : a.eval (.tmp 5) = .pointer (some ⟨w.heap.size + 1, 0, none⟩) := (hI 5 (by simp [Op.operands]) (by kernel_rfl)).trans rfl
      have f5 : a.tmps.getD 5 undef = .pointer (some ⟨w.heap.size + 1, 0, none⟩) := e5
      have g5 : a.tmps[5]?.getD undef = .pointer (some ⟨w.heap.size + 1, 0, none⟩) := by rw [← Array.getD_eq_getD_getElem?]; exact e5
      refine op_val (.pointer (some ⟨w.heap.size + 1, 3, none⟩)) ?_ hC (Below.refl _ _) (by intro d hd; cases hd; exact rfl)
      (clear hV hI hC; go_simp <;> (first | rfl | simp | (rw [IntKind.wrap_i64]; omega)))
    case o21 =>
      intro Q a w2 hC hV hI
      have e20 : a.eval (.tmp 20) = .pointer (some ⟨w.heap.size + 1, 3, none⟩) := hV 20 (by simp [Op.operands]) (by kernel_rfl)
      have f20 : a.tmps.getD 20 undef = .pointer (some ⟨w.heap.size + 1, 3, none⟩) := e20
      have g20 : a.tmps[20]?.getD undef = .pointer (some ⟨w.heap.size + 1, 3, none⟩) := by rw [← Array.getD_eq_getD_getElem?]; exact e20
      have hK := KC.out w2 hC
      refine op_val (.int .i64 gi) ?_ hC (Below.refl _ _) (by intro d hd; cases hd; exact rfl)
      (clear hV hI hC; go_simp <;> (first | rfl | simp | (rw [IntKind.wrap_i64]; omega)))
    case o22 =>
      intro Q a w2 hC hV hI
      have e5 : a.eval (.tmp 5) = .pointer (some ⟨w.heap.size + 1, 0, none⟩) := (hI 5 (by simp [Op.operands]) (by kernel_rfl)).trans rfl
      have f5 : a.tmps.getD 5 undef = .pointer (some ⟨w.heap.size + 1, 0, none⟩) := e5
      have g5 : a.tmps[5]?.getD undef = .pointer (some ⟨w.heap.size + 1, 0, none⟩) := by rw [← Array.getD_eq_getD_getElem?]; exact e5
      refine op_val (.pointer (some ⟨w.heap.size + 1, 5, none⟩)) ?_ hC (Below.refl _ _) (by intro d hd; cases hd; exact rfl)
      (clear hV hI hC; go_simp <;> (first | rfl | simp | (rw [IntKind.wrap_i64]; omega)))
    case o23 =>
      intro Q a w2 hC hV hI
      have e22 : a.eval (.tmp 22) = .pointer (some ⟨w.heap.size + 1, 5, none⟩) := hV 22 (by simp [Op.operands]) (by kernel_rfl)
      have f22 : a.tmps.getD 22 undef = .pointer (some ⟨w.heap.size + 1, 5, none⟩) := e22
      have g22 : a.tmps[22]?.getD undef = .pointer (some ⟨w.heap.size + 1, 5, none⟩) := by rw [← Array.getD_eq_getD_getElem?]; exact e22
      have hK := KC.out w2 hC
      refine op_val (.int .i64 t) ?_ hC (Below.refl _ _) (by intro d hd; cases hd; exact rfl)
      (clear hV hI hC; go_simp <;> (first | rfl | simp | (rw [IntKind.wrap_i64]; omega)))
    case o24 =>
      intro Q a w2 hC hV hI
      have e14 : a.eval (.tmp 14) = .string p := hV 14 (by simp [Op.operands]) (by kernel_rfl)
      have f14 : a.tmps.getD 14 undef = .string p := e14
      have g14 : a.tmps[14]?.getD undef = .string p := by rw [← Array.getD_eq_getD_getElem?]; exact e14
      have e17 : a.eval (.tmp 17) = .int .i64 md := hV 17 (by simp [Op.operands]) (by kernel_rfl)
      have f17 : a.tmps.getD 17 undef = .int .i64 md := e17
      have g17 : a.tmps[17]?.getD undef = .int .i64 md := by rw [← Array.getD_eq_getD_getElem?]; exact e17
      have e19 : a.eval (.tmp 19) = .int .i64 u1 := hV 19 (by simp [Op.operands]) (by kernel_rfl)
      have f19 : a.tmps.getD 19 undef = .int .i64 u1 := e19
      have g19 : a.tmps[19]?.getD undef = .int .i64 u1 := by rw [← Array.getD_eq_getD_getElem?]; exact e19
      have e21 : a.eval (.tmp 21) = .int .i64 gi := hV 21 (by simp [Op.operands]) (by kernel_rfl)
      have f21 : a.tmps.getD 21 undef = .int .i64 gi := e21
      have g21 : a.tmps[21]?.getD undef = .int .i64 gi := by rw [← Array.getD_eq_getD_getElem?]; exact e21
      have e23 : a.eval (.tmp 23) = .int .i64 t := hV 23 (by simp [Op.operands]) (by kernel_rfl)
      have f23 : a.tmps.getD 23 undef = .int .i64 t := e23
      have g23 : a.tmps[23]?.getD undef = .int .i64 t := by rw [← Array.getD_eq_getD_getElem?]; exact e23
      refine op_val (.agg #[.int .i64 0, .string p, .string ⟨#[]⟩, .int .i64 md, .int .i64 u1, .int .i64 gi, .int .i64 t, .string ⟨#[]⟩, .string ⟨#[]⟩, .string ⟨#[]⟩]) ?_ hC (Below.refl _ _) (by intro d hd; cases hd; exact rfl)
      (clear hV hI hC; go_simp <;> (first | rfl | simp | (rw [IntKind.wrap_i64]; omega)))
    case o6 =>
      intro Q a w2 hC hV hI
      refine op_val (.pointer (some ⟨w2.heap.size, 0, none⟩)) (w' := w2.alloc (.cells #[.int .i64 0, .string ⟨#[]⟩, .string ⟨#[]⟩, .int .i64 0, .int .i64 0, .int .i64 0, .int .i64 0, .string ⟨#[]⟩, .string ⟨#[]⟩, .string ⟨#[]⟩] 41)) ?_ (hC.alloc hC.size _) ((Below.refl _ _).alloc (Nat.le_refl _) _) ?_
      · (clear hV hI hC; go_simp <;> (first | rfl | simp | (rw [IntKind.wrap_i64]; omega)))
      · intro d hd; cases hd; exact ⟨w2.heap.size, rfl, hC.size, heap_lastG _ _⟩
  case hend =>
    intro f w2 hC hall
    simp only [List.take_succ_cons, List.take_zero, List.drop_succ_cons, List.drop_zero] at hall ⊢
    simp only [List.forall_mem_cons] at hall
    obtain ⟨h12, h13, h14, h15, h16, h17, h18, h19, h20, h21, h22, h23, h24, h6, _⟩ := hall
    replace h12 : f 12 = .pointer (some ⟨w.heap.size + 1, 6, none⟩) := h12 12 rfl
    replace h13 : f 13 = .string p := h13 13 rfl
    replace h14 : f 14 = .string p := h14 14 rfl
    replace h15 : f 15 = .pointer (some ⟨w.heap.size + 1, 1, none⟩) := h15 15 rfl
    replace h16 : f 16 = .int .i64 mo := h16 16 rfl
    replace h17 : f 17 = .int .i64 md := h17 17 rfl
    replace h18 : f 18 = .pointer (some ⟨w.heap.size + 1, 2, none⟩) := h18 18 rfl
    replace h19 : f 19 = .int .i64 u1 := h19 19 rfl
    replace h20 : f 20 = .pointer (some ⟨w.heap.size + 1, 3, none⟩) := h20 20 rfl
    replace h21 : f 21 = .int .i64 gi := h21 21 rfl
    replace h22 : f 22 = .pointer (some ⟨w.heap.size + 1, 5, none⟩) := h22 22 rfl
    replace h23 : f 23 = .int .i64 t := h23 23 rfl
    replace h24 : f 24 = .agg #[.int .i64 0, .string p, .string ⟨#[]⟩, .int .i64 md, .int .i64 u1, .int .i64 gi, .int .i64 t, .string ⟨#[]⟩, .string ⟨#[]⟩, .string ⟨#[]⟩] := h24 24 rfl
    obtain ⟨G6, hG6, hGB6, hGO6⟩ : ∃ G, f 6 = .pointer (some ⟨G, 0, none⟩) ∧ w1.heap.size ≤ G ∧ w2.heap[G]? = some (.cells #[.int .i64 0, .string ⟨#[]⟩, .string ⟨#[]⟩, .int .i64 0, .int .i64 0, .int .i64 0, .int .i64 0, .string ⟨#[]⟩, .string ⟨#[]⟩, .string ⟨#[]⟩] 41 (0, 0)) := h6 6 rfl
    simp only [putAll, Act.put, List.setIfInBounds_toArray, List.set_cons_succ, List.set_cons_zero, h12, h13, h14, h15, h16, h17, h18, h19, h20, h21, h22, h23, h24, hG6]
    clear h12 h13 h14 h15 h16 h17 h18 h19 h20 h21 h22 h23 h24 hG6 h6
    clear KC
    have XCa := XC.out.below hC (by omega)
    have XRa := XR.out.below hC (by omega)
    have hB2 := btE B1.out (hC.mono (Nat.le_refl _))
    have XO : EntO w2 G6 ⟨0, ⟨#[]⟩, ⟨#[]⟩, 0, 0, 0, 0, ⟨#[]⟩, ⟨#[]⟩, ⟨#[]⟩⟩ := hGO6
    have hn0 : ¬ w.heap.size = G6 := by omega
    have hn1 : ¬ w.heap.size + 1 = G6 := by omega
    have hw6 : w.heap.size ≤ G6 := by omega
    obtain ⟨d0, d1, d2, d3, d4, d5, d6, d7, d8, d9⟩ := XO.at.zero
    have f0 := XO.fz 0
    have f1 := XO.fz 1
    have f2 := XO.fz 2
    have f3 := XO.fz 3
    have f4 := XO.fz 4
    have f5 := XO.fz 5
    have f6 := XO.fz 6
    have f7 := XO.fz 7
    have f8 := XO.fz 8
    have f9 := XO.fz 9
    have XP := XO.put ⟨0, p, ⟨#[]⟩, md, u1, gi, t, ⟨#[]⟩, ⟨#[]⟩, ⟨#[]⟩⟩
    have RP : EntO (putE w2 G6 ⟨0, p, ⟨#[]⟩, md, u1, gi, t, ⟨#[]⟩, ⟨#[]⟩, ⟨#[]⟩⟩) w.heap.size ⟨0, ⟨#[]⟩, ⟨#[]⟩, 0, 0, 0, 0, ⟨#[]⟩, ⟨#[]⟩, ⟨#[]⟩⟩ := (putE_other hn0).trans XRa
    have CP : CardO (putE w2 G6 ⟨0, p, ⟨#[]⟩, md, u1, gi, t, ⟨#[]⟩, ⟨#[]⟩, ⟨#[]⟩⟩) (w.heap.size + 1) ⟨ino, mo, u1, gi, cn, t, p, d⟩ := (putE_other hn1).trans XCa
    have BP := below_putE (g := G6) hB2 hw6 ⟨0, p, ⟨#[]⟩, md, u1, gi, t, ⟨#[]⟩, ⟨#[]⟩, ⟨#[]⟩⟩
    simp only [putE] at XP RP CP BP
    go_upto_region 3 with fail
    obtain ⟨w3, hw3⟩ : ∃ y, y = ((((((((((w2.setCell ⟨G6, 0, none⟩ (.int .i64 0)).setCell ⟨G6, 1, none⟩ (.string p)).setCell ⟨G6, 2, none⟩ (.string ⟨#[]⟩)).setCell ⟨G6, 3, none⟩ (.int .i64 md)).setCell ⟨G6, 4, none⟩ (.int .i64 u1)).setCell ⟨G6, 5, none⟩ (.int .i64 gi)).setCell ⟨G6, 6, none⟩ (.int .i64 t)).setCell ⟨G6, 7, none⟩ (.string ⟨#[]⟩)).setCell ⟨G6, 8, none⟩ (.string ⟨#[]⟩)).setCell ⟨G6, 9, none⟩ (.string ⟨#[]⟩)) := ⟨_, rfl⟩
    rw [← hw3] at XP RP CP BP ⊢
    clear hw3 d0 d1 d2 d3 d4 d5 d6 d7 d8 d9 f0 f1 f2 f3 f4 f5 f6 f7 f8 f9 XO XCa XRa hB2 hGO6 XC XR B1 HC
    obtain ⟨k0, k1, k2, k3, k4, k5, k6, k7⟩ := CP.at.zero
    obtain ⟨d0, d1, d2, d3, d4, d5, d6, d7, d8, d9⟩ := XP.at.zero
    by_cases q1 : mo - md = 16384
    · have q1b : (mo - md == 16384) = true := by simpa using q1
      have HF : Hid (r = ⟨1, p, ⟨#[]⟩, md, u1, gi, t, ⟨#[]⟩, ⟨#[]⟩, ⟨#[]⟩⟩) := Lib.hid (by rw [HR.out, if_pos q1])
      clear HR q1
      have f0 := XP.fz 0
      have XQ := XP.set (e' := ⟨1, p, ⟨#[]⟩, md, u1, gi, t, ⟨#[]⟩, ⟨#[]⟩, ⟨#[]⟩⟩) 0 (.int .i64 1) rfl
      have RQ : EntO (w3.setCell ⟨G6, 0, none⟩ (.int .i64 1)) w.heap.size ⟨0, ⟨#[]⟩, ⟨#[]⟩, 0, 0, 0, 0, ⟨#[]⟩, ⟨#[]⟩, ⟨#[]⟩⟩ := RP.other hn0
      have CQ : CardO (w3.setCell ⟨G6, 0, none⟩ (.int .i64 1)) (w.heap.size + 1) ⟨ino, mo, u1, gi, cn, t, p, d⟩ := CP.other hn1
      have BQ := BP.setCell (p := ⟨G6, 0, none⟩) hw6 (.int .i64 1)
      go_upto_region 14 with fail
      obtain ⟨w4, hnw⟩ : ∃ y, y = w3.setCell ⟨G6, 0, none⟩ (.int .i64 1) := ⟨_, rfl⟩
      rw [← hnw] at XQ RQ CQ BQ ⊢
      clear hnw f0 XP RP CP BP d0 d1 d2 d3 d4 d5 d6 d7 d8 d9 k0 k1 k2 k3 k4 k5 k6 k7
      have XP := XQ
      have RP := RQ
      have CP := CQ
      have BP := BQ
      clear XQ RQ CQ BQ
      obtain ⟨d0, d1, d2, d3, d4, d5, d6, d7, d8, d9⟩ := XP.at.zero
      obtain ⟨k0, k1, k2, k3, k4, k5, k6, k7⟩ := CP.at.zero
      clear d0 d1 d2 d3 d4 d5 d6 d7 d8 d9
      obtain ⟨d0, d1, d2, d3, d4, d5, d6, d7, d8, d9⟩ := XP.at.zero
      obtain ⟨z0, z1, z2, z3, z4, z5, z6, z7, z8, z9⟩ := RP.at.zero
      have f0 := RP.fz 0
      have f1 := RP.fz 1
      have f2 := RP.fz 2
      have f3 := RP.fz 3
      have f4 := RP.fz 4
      have f5 := RP.fz 5
      have f6 := RP.fz 6
      have f7 := RP.fz 7
      have f8 := RP.fz 8
      have f9 := RP.fz 9
      have R9 := RP.put ⟨1, p, ⟨#[]⟩, md, u1, gi, t, ⟨#[]⟩, ⟨#[]⟩, ⟨#[]⟩⟩
      have B9 := below_putE (g := w.heap.size) BP (Nat.le_refl _) ⟨1, p, ⟨#[]⟩, md, u1, gi, t, ⟨#[]⟩, ⟨#[]⟩, ⟨#[]⟩⟩
      simp only [putE] at R9 B9
      go_wp2_with fail
      refine bodyPost_ret (res_ent1 rfl _ rfl R9) rfl ?_
      exact ⟨by rw [HF.out], B9⟩
    have q1b : (mo - md == 16384) = false := by simpa using q1
    by_cases q2 : mo - md = 40960
    · have q2b : (mo - md == 40960) = true := by simpa using q2
      have HF : Hid (r = ⟨2, p, d, md, u1, gi, t, ⟨#[]⟩, ⟨#[]⟩, ⟨#[]⟩⟩) := Lib.hid (by rw [HR.out, if_neg q1, if_pos q2])
      clear HR q1 q2
      have f0 := XP.fz 0
      have XQ := XP.set (e' := ⟨2, p, ⟨#[]⟩, md, u1, gi, t, ⟨#[]⟩, ⟨#[]⟩, ⟨#[]⟩⟩) 0 (.int .i64 2) rfl
      have RQ : EntO (w3.setCell ⟨G6, 0, none⟩ (.int .i64 2)) w.heap.size ⟨0, ⟨#[]⟩, ⟨#[]⟩, 0, 0, 0, 0, ⟨#[]⟩, ⟨#[]⟩, ⟨#[]⟩⟩ := RP.other hn0
      have CQ : CardO (w3.setCell ⟨G6, 0, none⟩ (.int .i64 2)) (w.heap.size + 1) ⟨ino, mo, u1, gi, cn, t, p, d⟩ := CP.other hn1
      have BQ := BP.setCell (p := ⟨G6, 0, none⟩) hw6 (.int .i64 2)
      go_upto_region 10 with fail
      obtain ⟨w4, hnw⟩ : ∃ y, y = w3.setCell ⟨G6, 0, none⟩ (.int .i64 2) := ⟨_, rfl⟩
      rw [← hnw] at XQ RQ CQ BQ ⊢
      clear hnw f0 XP RP CP BP d0 d1 d2 d3 d4 d5 d6 d7 d8 d9 k0 k1 k2 k3 k4 k5 k6 k7
      have XP := XQ
      have RP := RQ
      have CP := CQ
      have BP := BQ
      clear XQ RQ CQ BQ
      obtain ⟨d0, d1, d2, d3, d4, d5, d6, d7, d8, d9⟩ := XP.at.zero
      obtain ⟨k0, k1, k2, k3, k4, k5, k6, k7⟩ := CP.at.zero
      go_wp2_with fail
      refine (HD.out _).mono ?_
      rintro e w5 ⟨rfl, hb⟩
      replace XP := XP.below hb XP.lt
      replace RP := RP.below hb RP.lt
      replace CP := CP.below hb CP.lt
      replace BP := btE BP hb
      clear hb d0 d1 d2 d3 d4 d5 d6 d7 d8 d9 k0 k1 k2 k3 k4 k5 k6 k7
      obtain ⟨d0, d1, d2, d3, d4, d5, d6, d7, d8, d9⟩ := XP.at.zero
      obtain ⟨k0, k1, k2, k3, k4, k5, k6, k7⟩ := CP.at.zero
      have f2 := XP.fz 2
      have XQ := XP.set (e' := ⟨2, p, d, md, u1, gi, t, ⟨#[]⟩, ⟨#[]⟩, ⟨#[]⟩⟩) 2 (.string d) rfl
      have RQ : EntO (w5.setCell ⟨G6, 2, none⟩ (.string d)) w.heap.size ⟨0, ⟨#[]⟩, ⟨#[]⟩, 0, 0, 0, 0, ⟨#[]⟩, ⟨#[]⟩, ⟨#[]⟩⟩ := RP.other hn0
      have CQ : CardO (w5.setCell ⟨G6, 2, none⟩ (.string d)) (w.heap.size + 1) ⟨ino, mo, u1, gi, cn, t, p, d⟩ := CP.other hn1
      have BQ := BP.setCell (p := ⟨G6, 2, none⟩) hw6 (.string d)
      go_upto_region 14 with fail
      obtain ⟨w6, hnw⟩ : ∃ y, y = w5.setCell ⟨G6, 2, none⟩ (.string d) := ⟨_, rfl⟩
      rw [← hnw] at XQ RQ CQ BQ ⊢
      clear hnw f2 XP RP CP BP d0 d1 d2 d3 d4 d5 d6 d7 d8 d9 k0 k1 k2 k3 k4 k5 k6 k7
      have XP := XQ
      have RP := RQ
      have CP := CQ
      have BP := BQ
      clear XQ RQ CQ BQ
      obtain ⟨d0, d1, d2, d3, d4, d5, d6, d7, d8, d9⟩ := XP.at.zero
      obtain ⟨k0, k1, k2, k3, k4, k5, k6, k7⟩ := CP.at.zero
      clear d0 d1 d2 d3 d4 d5 d6 d7 d8 d9
      obtain ⟨d0, d1, d2, d3, d4, d5, d6, d7, d8, d9⟩ := XP.at.zero
      obtain ⟨z0, z1, z2, z3, z4, z5, z6, z7, z8, z9⟩ := RP.at.zero
      have f0 := RP.fz 0
      have f1 := RP.fz 1
      have f2 := RP.fz 2
      have f3 := RP.fz 3
      have f4 := RP.fz 4
      have f5 := RP.fz 5
      have f6 := RP.fz 6
      have f7 := RP.fz 7
      have f8 := RP.fz 8
      have f9 := RP.fz 9
      have R9 := RP.put ⟨2, p, d, md, u1, gi, t, ⟨#[]⟩, ⟨#[]⟩, ⟨#[]⟩⟩
      have B9 := below_putE (g := w.heap.size) BP (Nat.le_refl _) ⟨2, p, d, md, u1, gi, t, ⟨#[]⟩, ⟨#[]⟩, ⟨#[]⟩⟩
      simp only [putE] at R9 B9
      go_wp2_with fail
      refine bodyPost_ret (res_ent1 rfl _ rfl R9) rfl ?_
      exact ⟨by rw [HF.out], B9⟩
    have q2b : (mo - md == 40960) = false := by simpa using q2
    by_cases q3 : ino = (i : Int) + 1
    · have q3b : (ino == (i : Int) + 1) = true := by simpa using q3
      have HF : Hid (r = ⟨0, p, ⟨#[]⟩, md, u1, gi, t, ⟨#[]⟩, ⟨#[]⟩, d⟩) := Lib.hid (by rw [HR.out, if_neg q1, if_neg q2, if_pos q3])
      clear HR q1 q2 q3
      have f0 := XP.fz 0
      have XQ := XP.set (e' := ⟨0, p, ⟨#[]⟩, md, u1, gi, t, ⟨#[]⟩, ⟨#[]⟩, ⟨#[]⟩⟩) 0 (.int .i64 0) rfl
      have RQ : EntO (w3.setCell ⟨G6, 0, none⟩ (.int .i64 0)) w.heap.size ⟨0, ⟨#[]⟩, ⟨#[]⟩, 0, 0, 0, 0, ⟨#[]⟩, ⟨#[]⟩, ⟨#[]⟩⟩ := RP.other hn0
      have CQ : CardO (w3.setCell ⟨G6, 0, none⟩ (.int .i64 0)) (w.heap.size + 1) ⟨ino, mo, u1, gi, cn, t, p, d⟩ := CP.other hn1
      have BQ := BP.setCell (p := ⟨G6, 0, none⟩) hw6 (.int .i64 0)
      go_upto_region 13 with fail
      obtain ⟨w4, hnw⟩ : ∃ y, y = w3.setCell ⟨G6, 0, none⟩ (.int .i64 0) := ⟨_, rfl⟩
      rw [← hnw] at XQ RQ CQ BQ ⊢
      clear hnw f0 XP RP CP BP d0 d1 d2 d3 d4 d5 d6 d7 d8 d9 k0 k1 k2 k3 k4 k5 k6 k7
      have XP := XQ
      have RP := RQ
      have CP := CQ
      have BP := BQ
      clear XQ RQ CQ BQ
      obtain ⟨d0, d1, d2, d3, d4, d5, d6, d7, d8, d9⟩ := XP.at.zero
      obtain ⟨k0, k1, k2, k3, k4, k5, k6, k7⟩ := CP.at.zero
      go_wp2_with fail
      refine (HD.out _).mono ?_
      rintro e w5 ⟨rfl, hb⟩
      replace XP := XP.below hb XP.lt
      replace RP := RP.below hb RP.lt
      replace CP := CP.below hb CP.lt
      replace BP := btE BP hb
      clear hb d0 d1 d2 d3 d4 d5 d6 d7 d8 d9 k0 k1 k2 k3 k4 k5 k6 k7
      obtain ⟨d0, d1, d2, d3, d4, d5, d6, d7, d8, d9⟩ := XP.at.zero
      obtain ⟨k0, k1, k2, k3, k4, k5, k6, k7⟩ := CP.at.zero
      have f9 := XP.fz 9
      have XQ := XP.set (e' := ⟨0, p, ⟨#[]⟩, md, u1, gi, t, ⟨#[]⟩, ⟨#[]⟩, d⟩) 9 (.string d) rfl
      have RQ : EntO (w5.setCell ⟨G6, 9, none⟩ (.string d)) w.heap.size ⟨0, ⟨#[]⟩, ⟨#[]⟩, 0, 0, 0, 0, ⟨#[]⟩, ⟨#[]⟩, ⟨#[]⟩⟩ := RP.other hn0
      have CQ : CardO (w5.setCell ⟨G6, 9, none⟩ (.string d)) (w.heap.size + 1) ⟨ino, mo, u1, gi, cn, t, p, d⟩ := CP.other hn1
      have BQ := BP.setCell (p := ⟨G6, 9, none⟩) hw6 (.string d)
      go_upto_region 14 with fail
      obtain ⟨w6, hnw⟩ : ∃ y, y = w5.setCell ⟨G6, 9, none⟩ (.string d) := ⟨_, rfl⟩
      rw [← hnw] at XQ RQ CQ BQ ⊢
      clear hnw f9 XP RP CP BP d0 d1 d2 d3 d4 d5 d6 d7 d8 d9 k0 k1 k2 k3 k4 k5 k6 k7
      have XP := XQ
      have RP := RQ
      have CP := CQ
      have BP := BQ
      clear XQ RQ CQ BQ
      obtain ⟨d0, d1, d2, d3, d4, d5, d6, d7, d8, d9⟩ := XP.at.zero
      obtain ⟨k0, k1, k2, k3, k4, k5, k6, k7⟩ := CP.at.zero
      clear d0 d1 d2 d3 d4 d5 d6 d7 d8 d9
      obtain ⟨d0, d1, d2, d3, d4, d5, d6, d7, d8, d9⟩ := XP.at.zero
      obtain ⟨z0, z1, z2, z3, z4, z5, z6, z7, z8, z9⟩ := RP.at.zero
      have f0 := RP.fz 0
      have f1 := RP.fz 1
      have f2 := RP.fz 2
      have f3 := RP.fz 3
      have f4 := RP.fz 4
      have f5 := RP.fz 5
      have f6 := RP.fz 6
      have f7 := RP.fz 7
      have f8 := RP.fz 8
      have f9 := RP.fz 9
      have R9 := RP.put ⟨0, p, ⟨#[]⟩, md, u1, gi, t, ⟨#[]⟩, ⟨#[]⟩, d⟩
      have B9 := below_putE (g := w.heap.size) BP (Nat.le_refl _) ⟨0, p, ⟨#[]⟩, md, u1, gi, t, ⟨#[]⟩, ⟨#[]⟩, d⟩
      simp only [putE] at R9 B9
      go_wp2_with fail
      refine bodyPost_ret (res_ent1 rfl _ rfl R9) rfl ?_
      exact ⟨by rw [HF.out], B9⟩
    have q3b : (ino == (i : Int) + 1) = false := by simpa using q3
    have HF : Hid (r = ⟨3, p, pa, md, u1, gi, t, ⟨#[]⟩, ⟨#[]⟩, ⟨#[]⟩⟩) := Lib.hid (by rw [HR.out, if_neg q1, if_neg q2, if_neg q3])
    clear HR q1 q2 q3
    have f0 := XP.fz 0
    have XQ := XP.set (e' := ⟨3, p, ⟨#[]⟩, md, u1, gi, t, ⟨#[]⟩, ⟨#[]⟩, ⟨#[]⟩⟩) 0 (.int .i64 3) rfl
    have RQ : EntO (w3.setCell ⟨G6, 0, none⟩ (.int .i64 3)) w.heap.size ⟨0, ⟨#[]⟩, ⟨#[]⟩, 0, 0, 0, 0, ⟨#[]⟩, ⟨#[]⟩, ⟨#[]⟩⟩ := RP.other hn0
    have CQ : CardO (w3.setCell ⟨G6, 0, none⟩ (.int .i64 3)) (w.heap.size + 1) ⟨ino, mo, u1, gi, cn, t, p, d⟩ := CP.other hn1
    have BQ := BP.setCell (p := ⟨G6, 0, none⟩) hw6 (.int .i64 3)
    go_upto_region 5 with fail
    obtain ⟨w4, hnw⟩ : ∃ y, y = w3.setCell ⟨G6, 0, none⟩ (.int .i64 3) := ⟨_, rfl⟩
    rw [← hnw] at XQ RQ CQ BQ ⊢
    clear hnw f0 XP RP CP BP d0 d1 d2 d3 d4 d5 d6 d7 d8 d9 k0 k1 k2 k3 k4 k5 k6 k7
    have XP := XQ
    have RP := RQ
    have CP := CQ
    have BP := BQ
    clear XQ RQ CQ BQ
    obtain ⟨d0, d1, d2, d3, d4, d5, d6, d7, d8, d9⟩ := XP.at.zero
    obtain ⟨k0, k1, k2, k3, k4, k5, k6, k7⟩ := CP.at.zero
    go_wp2_with fail
    refine (HP.out _ (by have := BP.size; omega) (H1.out.below BP hg)).mono ?_
    rintro e w5 ⟨rfl, hb⟩
    replace XP := XP.below hb XP.lt
    replace RP := RP.below hb RP.lt
    replace CP := CP.below hb CP.lt
    replace BP := btE BP hb
    clear hb d0 d1 d2 d3 d4 d5 d6 d7 d8 d9 k0 k1 k2 k3 k4 k5 k6 k7
    obtain ⟨d0, d1, d2, d3, d4, d5, d6, d7, d8, d9⟩ := XP.at.zero
    obtain ⟨k0, k1, k2, k3, k4, k5, k6, k7⟩ := CP.at.zero
    have f2 := XP.fz 2
    have XQ := XP.set (e' := ⟨3, p, pa, md, u1, gi, t, ⟨#[]⟩, ⟨#[]⟩, ⟨#[]⟩⟩) 2 (.string pa) rfl
    have RQ : EntO (w5.setCell ⟨G6, 2, none⟩ (.string pa)) w.heap.size ⟨0, ⟨#[]⟩, ⟨#[]⟩, 0, 0, 0, 0, ⟨#[]⟩, ⟨#[]⟩, ⟨#[]⟩⟩ := RP.other hn0
    have CQ : CardO (w5.setCell ⟨G6, 2, none⟩ (.string pa)) (w.heap.size + 1) ⟨ino, mo, u1, gi, cn, t, p, d⟩ := CP.other hn1
    have BQ := BP.setCell (p := ⟨G6, 2, none⟩) hw6 (.string pa)
    go_upto_region 14 with fail
    obtain ⟨w6, hnw⟩ : ∃ y, y = w5.setCell ⟨G6, 2, none⟩ (.string pa) := ⟨_, rfl⟩
    rw [← hnw] at XQ RQ CQ BQ ⊢
    clear hnw f2 XP RP CP BP d0 d1 d2 d3 d4 d5 d6 d7 d8 d9 k0 k1 k2 k3 k4 k5 k6 k7
    have XP := XQ
    have RP := RQ
    have CP := CQ
    have BP := BQ
    clear XQ RQ CQ BQ
    obtain ⟨d0, d1, d2, d3, d4, d5, d6, d7, d8, d9⟩ := XP.at.zero
    obtain ⟨k0, k1, k2, k3, k4, k5, k6, k7⟩ := CP.at.zero
    clear d0 d1 d2 d3 d4 d5 d6 d7 d8 d9
    obtain ⟨d0, d1, d2, d3, d4, d5, d6, d7, d8, d9⟩ := XP.at.zero
    obtain ⟨z0, z1, z2, z3, z4, z5, z6, z7, z8, z9⟩ := RP.at.zero
    have f0 := RP.fz 0
    have f1 := RP.fz 1
    have f2 := RP.fz 2
    have f3 := RP.fz 3
    have f4 := RP.fz 4
    have f5 := RP.fz 5
    have f6 := RP.fz 6
    have f7 := RP.fz 7
    have f8 := RP.fz 8
    have f9 := RP.fz 9
    have R9 := RP.put ⟨3, p, pa, md, u1, gi, t, ⟨#[]⟩, ⟨#[]⟩, ⟨#[]⟩⟩
    have B9 := below_putE (g := w.heap.size) BP (Nat.le_refl _) ⟨3, p, pa, md, u1, gi, t, ⟨#[]⟩, ⟨#[]⟩, ⟨#[]⟩⟩
    simp only [putE] at R9 B9
    go_wp2_with fail
    refine bodyPost_ret (res_ent1 rfl _ rfl R9) rfl ?_
    exact ⟨by rw [HF.out], B9⟩
theorem small_entI {C : List Card} {i : Nat} {c : Card} (hC : SmallC C) (hc : szC c ≤ 2097152) : esz (entI C i c) ≤ 4194304 := by
  have h0 : (⟨#[]⟩ : ByteArray).size = 0 := rfl
  have hp : (pathOfIno C c.Ino).size ≤ 2097152 := by
    unfold pathOfIno
    split
    · rw [h0]; omega
    · rename_i hx
      obtain ⟨a, ha⟩ := getC' (L := C) (i := (c.Ino - 1).toNat) (by omega)
      rw [getD_ofC ha]
      have := hC a (List.mem_of_getElem? ha)
      unfold szC at this
      omega
  unfold szC at hc
  unfold entI
  split
  · simp only [esz]; omega
  · split
    · simp only [esz]; omega
    · split
      · simp only [esz]; omega
      · simp only [esz]; omega
theorem small_entsI {C : List Card} (hC : SmallC C) (n : Nat) (hn : n ≤ C.length) : SmallL (entsI C n) := by
  intro e he
  obtain ⟨i, hi⟩ := List.mem_iff_getElem?.1 he
  have hlt : i < n := by
    have := (List.getElem?_eq_some_iff.1 hi).1
    rw [entsI_len] at this
    exact this
  rw [entsI_get _ _ _ hlt] at hi
  obtain rfl := Option.some.inj hi
  have hc : C[i]? = some C[i] := List.getElem?_eq_getElem (by omega)
  rw [getD_ofC hc]
  exact small_entI hC (hC _ (List.mem_of_getElem? hc))
theorem entriesv_I (C : List Card) : entriesv C = if okI C then entsI C C.length else [] := by
  rw [okI_eq, entriesv]
  by_cases h : okS C = true
  · rw [if_pos h, if_pos h, (entries_same C (.inl h)).2.2]
  · rw [if_neg h, if_neg h]
set_option maxHeartbeats 6400000 in
set_option maxRecDepth 8000 in
theorem entriesOf_impl (C : List Card) (n g cap : Nat) (w : World) (hn : n = C.length) (hm : n ≤ 1048576) (hcap : n ≤ cap) (hg : g < w.heap.size) (hsm : SmallC C) (hwf : ∀ c ∈ C, c.wf) (h1 : RowC w g C) :
    Calls Tryz.prog 54 #[.slice (some ⟨g, 0, none⟩) n cap] w fun e w' => ∃ v, e = .returned (.tuple #[v, .bool (okS C)]) ∧ OwnE w' w.heap.size v (entriesv C) ∧ Below w.heap.size w w' := by
  obtain ⟨i0, hi0, hz0, hz1, hz2⟩ := info_parts Tryz.infoE
  have H1 := Lib.hid h1
  have HG : Hid (∀ i, i < n → ∃ c, C[i]? = some c ∧ c.wf) := Lib.hid (fun i hi => by obtain ⟨c, hc⟩ := getC' (L := C) (i := i) (by omega); exact ⟨c, hc, hwf c (List.mem_of_getElem? hc)⟩)
  have HS : Hid (∀ i c, C[i]? = some c → entsI C (i + 1) = entsI C i ++ [entI C i c]) := Lib.hid (fun i c hc => by rw [entsI, getD_ofC hc])
  have HE := Lib.hid (fun (i : Nat) (ino mo u1 gi cn t : Int) (p d : ByteArray) (hc : C[i]? = some ⟨ino, mo, u1, gi, cn, t, p, d⟩) (hi0 : -9223372036854775808 ≤ ino) (hm0 : -9223372036854775808 ≤ mo) (hm1 : mo ≤ 9223372036854775807) w (hg : g < w.heap.size) (h : RowC w g C) => entryOf_any C i ino mo u1 gi cn t p d n g cap w hc hn (by omega) hg hsm hi0 hm0 hm1 h)
  have HLn := Lib.hid (fun i => entsI_len C i)
  have HQ := Lib.hid (fun g2 c2 w (hc : n ≤ c2) (hg : g2 < w.heap.size) (h : RowE w g2 (entsI C n)) => cardsOf_impl (entsI C n) n g2 c2 w (entsI_len C n).symm (by omega) hc hg (small_entsI hsm n (by omega)) h)
  have hql : (cardsv (entsI C n)).length ≤ n := by have := cardsv_le (entsI C n); rw [entsI_len] at this; exact this
  have HM := Lib.hid (fun M (m g2 c2 : Nat) w (hM : m = M.length) (hl : m ≤ 4194304) (hg2 : g2 < w.heap.size) (hg : g < w.heap.size) (h2 : RowC w g2 M) (h : RowC w g C) => equal_libC M C m g2 c2 n g cap w hM hn hl (by omega) hg2 hg h2 h)
  have HO : Hid (okS C = decide (cardsv (entsI C n) = C)) := Lib.hid (by rw [← okI_eq, hn]; rfl)
  have HV : Hid (entriesv C = if okS C then entsI C n else []) := Lib.hid (by rw [entriesv_I, okI_eq, hn])
  have HZ : Hid (entsI C 0 = []) := Lib.hid rfl
  obtain ⟨w0, hmk, hown0, hgr0⟩ := run_make_own (P := Tryz.prog) w w.heap.size 26 41 i0 (.agg #[.int .i64 0, .string ⟨#[]⟩, .string ⟨#[]⟩, .int .i64 0, .int .i64 0, .int .i64 0, .int .i64 0, .string ⟨#[]⟩, .string ⟨#[]⟩, .string ⟨#[]⟩]) 10 Tryz.underlying26 hi0 hz0 hz1 .i64 .i64 n (by rw [hz2]; omega) (by simp only [maxLen]; omega) (Nat.le_refl _)
  have O0 : Hid (OwnE w0 w.heap.size (.slice (some ⟨w.heap.size, 0, none⟩) 0 n) []) := Lib.hid ⟨hown0, _, _, rfl⟩
  have B0 : Hid (Below w.heap.size w w0) := Lib.hid ((Below.refl _ w).grown hgr0 (Nat.le_refl _) (fun b hb => by cases hb))
  generalize okS C = ok at HO HV
  generalize entriesv C = r at HV
  clear h1 hn hsm hwf hown0 hgr0
  go_enter Tryz.func54, Tryz.ntmps54
  go_wp2_with fail
  clear hmk
  go_loopw [4, 5, 11] (fun v _ u wr => ∃ i : Nat, u = .int .i64 i ∧ i ≤ n ∧ OwnE wr w.heap.size v (entsI C i) ∧ Below w.heap.size w wr) (fun _ _ u _ => n - (intOf u).toNat)
  case atStart => exact ⟨0, rfl, Nat.zero_le _, by rw [HZ.out]; exact O0.out, B0.out⟩
  case round =>
    obtain ⟨i, rfl, hi, ho, hb⟩ := hrel
    have O := Lib.hid ho
    have B := Lib.hid hb
    have hszB := B.out.size
    have R := Lib.hid (H1.out.below B.out hg)
    have zg5 : g < wr.heap.size := by omega
    clear ho hb O0 B0
    by_cases hlt : i < n
    · have hlt2 : (i : Int) < (n : Int) := by omega
      obtain ⟨c, hc, hcw⟩ := HG.out i hlt
      have HS2 := Lib.hid (HS.out i c hc)
      have HL2 := HLn.out i
      obtain ⟨ino, mo, u1, gi, cn, t, p, d⟩ := c
      obtain ⟨⟨hi0', _⟩, ⟨hm0, hm1⟩, _⟩ := hcw
      simp only at hm0 hm1 hi0'
      have HE2 := Lib.hid (HE.out i ino mo u1 gi cn t p d hc hi0' hm0 hm1 _ zg5 R.out)
      clear hc HS HE HG
      obtain ⟨go, co, rfl, _, zo, hbo, _, _⟩ := O.out.open
      obtain ⟨D, hD⟩ : ∃ D, entsI C i = D := ⟨_, rfl⟩
      rw [hD] at HS2 O HL2 ⊢
      have hDl : D.length ≤ 1048576 := by omega
      clear hD HL2
      generalize entI C i ⟨ino, mo, u1, gi, cn, t, p, d⟩ = f at HS2 HE2
      obtain ⟨ek, ep, el, em, eu, eg, et, es, er, eb⟩ := f
      simp only [Ent.cells] at HE2
      go_wp2_with fail
      refine HE2.out.mono ?_
      rintro e w6 ⟨rfl, hb⟩
      replace O := Lib.hid (O.out.keep hb)
      replace B := Lib.hid (btE B.out hb)
      have OW := Lib.hid O.out.1
      have hsz6 := B.out.size
      clear hb HE2 R
      go_wp2_with (at_builtin; refine wpList_append_own _ rfl _ _ 26 rfl w.heap.size 41 i0 (.agg #[.int .i64 0, .string ⟨#[]⟩, .string ⟨#[]⟩, .int .i64 0, .int .i64 0, .int .i64 0, .int .i64 0, .string ⟨#[]⟩, .string ⟨#[]⟩, .string ⟨#[]⟩]) 10 120 Tryz.underlying26 hi0 hz0 hz1 hz2 rfl (by decide) _ D.length (entVals D) rfl ?c0q ⟨w6.heap.size, 0, none⟩ 1 1 (entVals [⟨ek, ep, el, em, eu, eg, et, es, er, eb⟩]) rfl (entVals_len _) ?c1q ?c2q ?c3q ?c4q ?c5q ?_)
      case c0q => exact World.ownsRow.alloc OW.out _
      case c1q => first | exact ent_new _ _ _ | exact RowE.news0 (ent_new _ _ _) | (intro jj uu hu; rw [entVals_one] at hu; exact hu)
      case c2q => exact entVals_onecell _
      any_goals (first | (simp only [maxLen]; omega) | omega | (simp; omega))
      intro v' w7 hown hgrow hnil
      have O7 : Hid (OwnE w7 w.heap.size v' (entsI C (i + 1))) := Lib.hid (by rw [HS2.out]; exact ownE_app hown rfl rfl hnil)
      have B7 : Hid (Below w.heap.size w w7) := Lib.hid ((B.out.alloc hsz6 _).grown hgrow (by simp; omega) (fun b hb => (World.ownsRow.lt OW.out b hb).1))
      clear hown hgrow hnil O B OW
      go_wp2_with fail
      go_roundw
      case rel => exact ⟨i + 1, by go_num, by omega, O7.out, B7.out⟩
      case measure => simp [intOf]; omega
    · obtain rfl : i = n := by omega
      have hlt2 : ¬ (i : Int) < (i : Int) := by omega
      have HLi := HLn.out i
      obtain ⟨go, co, rfl, hro, zo, hbo, hcap2, _⟩ := O.out.open
      rw [HLi] at hcap2
      have RO := Lib.hid hro
      have HQi := Lib.hid (fun w hg h => HQ.out go co w hcap2 hg h)
      generalize entsI C i = D at *
      subst HLi
      clear hro HQ HS HE HG HZ HLn
      generalize cardsv D = Q at HQi HO hql
      go_wp2_with fail
      refine (HQi.out _ zo RO.out).mono ?_
      rintro e w7 ⟨v, rfl, hq, hb⟩
      obtain ⟨gq, cq, rfl, hrq, zq, _, _⟩ := hq.open
      have RQ := Lib.hid hrq
      replace O := Lib.hid (O.out.keep hb)
      replace R := Lib.hid (R.out.below hb zg5)
      replace B := Lib.hid (btE B.out hb)
      have zg7 := Nat.lt_of_lt_of_le zg5 hb.size
      clear hb hq hrq
      have HMi := Lib.hid (HM.out Q Q.length gq cq _ rfl (by omega) zq zg7 RQ.out R.out)
      clear HM
      generalize decide (Q = C) = b2 at HMi HO
      go_wp2_with fail
      refine HMi.out.mono ?_
      rintro e w8 ⟨rfl, hb⟩
      replace O := Lib.hid (O.out.keep hb)
      replace B := Lib.hid (btE B.out hb)
      clear hb
      cases b2 with
      | false =>
        have HF : Hid (ok = false) := Lib.hid HO.out
        have HF2 : Hid (r = []) := Lib.hid (by rw [HV.out, HF.out]; rfl)
        go_wp2_with fail
        go_ret2
        exact ⟨_, by rw [HF.out]; rfl, by rw [HF2.out]; exact OwnE.lit B.out.size, B.out.alloc B.out.size _⟩
      | true =>
        have HF : Hid (ok = true) := Lib.hid HO.out
        have HF2 : Hid (r = D) := Lib.hid (by rw [HV.out, HF.out]; rfl)
        go_wp2_with fail
        go_ret2
        exact ⟨_, by rw [HF.out]; rfl, by rw [HF2.out]; exact O.out, B.out⟩
end Go.Proofs.YtancidbbkoeokaaGreat

/- impl.EntriesOf of no cards at all (a nil row). -/
namespace Go.Proofs.YtancidbbkoeokaaGreat
open Go.ChangeShapes Go.WideShapes Go.ChangeAt Go.RowKit Go.Deep

theorem equal_nilC (g ca : Nat) (w : World) :
    Calls Tryz.prog 76 #[.slice (some ⟨g, 0, none⟩) 0 ca, .slice none 0 0] w fun e w' => e = .returned (.bool true) ∧ Below w.heap.size w w' := by
  go_enter Tryz.func76, Tryz.ntmps76
  go_wp2_with fail
  refine wp_loop_rounds 1 ?_
  rw [rounds_succ]
  go_wp2_with fail
  go_ret
  exact ⟨rfl, Below.refl _ _⟩
theorem cardsv_nil : cardsv [] = [] := by
  have := cardsv_le []
  exact List.eq_nil_of_length_eq_zero (by simpa using this)
theorem entriesv_nil : entriesv [] = [] := by
  have := entriesv_le []
  exact List.eq_nil_of_length_eq_zero (by simpa using this)
set_option maxHeartbeats 1600000 in
set_option maxRecDepth 8000 in
theorem entriesOf_nil (w : World) :
    Calls Tryz.prog 54 #[.slice none 0 0] w fun e w' => ∃ v, e = .returned (.tuple #[v, .bool true]) ∧ OwnE w' w.heap.size v [] ∧ Below w.heap.size w w' := by
  obtain ⟨i0, hi0, hz0, hz1, hz2⟩ := info_parts Tryz.infoE
  have HQ := Lib.hid (fun g2 c2 w (hg : g2 < w.heap.size) (h : RowE w g2 []) => cardsOf_impl [] 0 g2 c2 w rfl (by omega) (Nat.zero_le _) hg (fun e he => by cases he) h)
  rw [cardsv_nil] at HQ
  obtain ⟨w0, hmk, hown0, hgr0⟩ := run_make_own (P := Tryz.prog) w w.heap.size 26 41 i0 (.agg #[.int .i64 0, .string ⟨#[]⟩, .string ⟨#[]⟩, .int .i64 0, .int .i64 0, .int .i64 0, .int .i64 0, .string ⟨#[]⟩, .string ⟨#[]⟩, .string ⟨#[]⟩]) 10 Tryz.underlying26 hi0 hz0 hz1 .i64 .i64 0 (by rw [hz2]; omega) (by simp only [maxLen]; omega) (Nat.le_refl _)
  have O0 : Hid (OwnE w0 w.heap.size (.slice (some ⟨w.heap.size, 0, none⟩) 0 0) []) := Lib.hid ⟨hown0, _, _, rfl⟩
  have B0 : Hid (Below w.heap.size w w0) := Lib.hid ((Below.refl _ w).grown hgr0 (Nat.le_refl _) (fun b hb => by cases hb))
  clear hown0 hgr0
  rw [show ((0 : Nat) : Int) = 0 from rfl] at hmk
  go_enter Tryz.func54, Tryz.ntmps54
  go_wp2_with fail
  clear hmk
  refine wp_loop_rounds 1 ?_
  rw [rounds_succ]
  go_wp2_with fail
  refine (HQ.out _ _ _ O0.out.row.2.1 O0.out.row.1).mono ?_
  rintro e w7 ⟨v, rfl, hq, hb⟩
  obtain ⟨gq, cq, rfl, hrq, zq, _, _⟩ := hq.open
  have O := Lib.hid (O0.out.keep hb)
  have B := Lib.hid (btE B0.out hb)
  clear hb hq hrq O0 B0
  go_wp2_with fail
  refine (equal_nilC gq cq _).mono ?_
  rintro e w8 ⟨rfl, hb⟩
  replace O := Lib.hid (O.out.keep hb)
  replace B := Lib.hid (btE B.out hb)
  clear hb
  go_wp2_with fail
  go_ret2
  exact ⟨_, rfl, O.out, B.out⟩
/-- EntriesOf of a row of the call's own, perhaps nil. -/
theorem entriesOf_own (C : List Card) (base : Nat) (v : Value) (w : World) (hm : C.length ≤ 1048576) (hsm : SmallC C) (hwf : ∀ c ∈ C, c.wf) (h : OwnNC w base v C) :
    Calls Tryz.prog 54 #[v] w fun e w' => ∃ v ok, e = .returned (.tuple #[v, .bool ok]) ∧ OwnE w' w.heap.size v (entriesv C) ∧ Below w.heap.size w w' := by
  rcases h.cases with ⟨rfl, rfl⟩ | ho
  · rw [entriesv_nil]
    refine (entriesOf_nil w).mono ?_
    rintro e w' ⟨v, h1, h2, h3⟩
    exact ⟨v, _, h1, h2, h3⟩
  · obtain ⟨g, cap, rfl, hr, hz, _, hown⟩ := ho.open
    have hc : C.length ≤ cap := by
      rcases hown.2 with ⟨h0, _⟩ | ⟨g', cap', cur, hv, _, _, hc, _⟩
      · cases h0
      · cases hv
        exact hc
    refine (entriesOf_impl C C.length g cap w rfl hm hc hz hsm hwf hr).mono ?_
    rintro e w' ⟨v, h1, h2, h3⟩
    exact ⟨v, _, h1, h2, h3⟩
end Go.Proofs.YtancidbbkoeokaaGreat

/- Contract of impl.leadNumber at the bases 8, 10 and 16: the number at the start of a string and how many digits it has. -/
namespace Go.Proofs.YtancidbbkoeokaaGreat
open Go.ChangeShapes Go.WideShapes Go.ChangeAt Go.RowKit

end Go.Proofs.YtancidbbkoeokaaGreat

/- Contract of spec.l01Value at the bases 8, 10 and 16: the number that a string's digits tell, or -1. -/
namespace Go.Proofs.YtancidbbkoeokaaGreat
open Go.ChangeShapes Go.WideShapes Go.ChangeAt Go.RowKit

end Go.Proofs.YtancidbbkoeokaaGreat

/- Contracts of impl.wholeNumber (bases 8 and 16), spec.GetOct, impl.GetOct, spec.GetHex, impl.GetHex and the two laws over them. -/
namespace Go.Proofs.YtancidbbkoeokaaGreat
open Go.ChangeShapes Go.WideShapes Go.ChangeAt Go.RowKit

def wholev (b : Int) (l : List UInt8) : Int × Bool := if (lead b 0 l).2 = 0 ∨ (lead b 0 l).2 < l.length then (0, false) else ((lead b 0 l).1, true)
def getOctv (l : List UInt8) : Int × Bool := if 1 ≤ l.length ∧ l.length ≤ 20 ∧ 0 ≤ vals 8 0 l then (vals 8 0 l, true) else (0, false)
def getHexv (l : List UInt8) : Int × Bool := if l.length = 8 ∧ 0 ≤ vals 16 0 l then (vals 16 0 l, true) else (0, false)

end Go.Proofs.YtancidbbkoeokaaGreat

/- Contracts of spec.l01Digits (bases 8, 10, 16), spec.l01Ahead with the sign 0, and strings.Repeat of one byte. -/
namespace Go.Proofs.YtancidbbkoeokaaGreat
open Go.ChangeShapes Go.WideShapes Go.ChangeAt Go.RowKit

def numv (b : Nat) (n : Int) : ByteArray := ⟨(numeral b n.toNat).toArray⟩
def strLen : Value → Nat
  | .string s => s.size
  | _ => 0

def ahead (l : List UInt8) (width : Int) : List UInt8 := List.replicate (width.toNat - l.length) 48 ++ l
end Go.Proofs.YtancidbbkoeokaaGreat

/- Contract of internal/strconv.formatBits at the bases 8 and 16, for numbers of 0 to 2^53 - 1: the numeral. -/
namespace Go.Proofs.YtancidbbkoeokaaGreat
open Go.ChangeShapes Go.WideShapes Go.ChangeAt Go.RowKit

end Go.Proofs.YtancidbbkoeokaaGreat

/- Contracts of internal/strconv.FormatInt and strconv.FormatInt at the bases 8 and 16, for numbers of 0 to 2^53 - 1: the numeral. -/
namespace Go.Proofs.YtancidbbkoeokaaGreat
open Go.ChangeShapes Go.WideShapes Go.ChangeAt Go.RowKit

end Go.Proofs.YtancidbbkoeokaaGreat

/- The tables that strconv reads, carried from world to world; strconv.FormatInt at the bases 8, 10 and 16; impl.fieldDigits and impl.zeros. -/
namespace Go.Proofs.YtancidbbkoeokaaGreat
open Go.ChangeShapes Go.WideShapes Go.ChangeAt Go.RowKit

def Valid (n width : Int) : Prop := 0 ≤ n ∧ n ≤ 9007199254740991 ∧ 1 ≤ width ∧ width ≤ 20

end Go.Proofs.YtancidbbkoeokaaGreat

/- Contracts of spec.PutOct, impl.PutOct, spec.PutHex, impl.PutHex, spec.PutDec, impl.PutDec, for all arguments. -/
namespace Go.Proofs.YtancidbbkoeokaaGreat
open Go.ChangeShapes Go.WideShapes Go.ChangeAt Go.RowKit

instance (n width : Int) : Decidable (Valid n width) := by unfold Valid; infer_instance
def putOctv (n width : Int) : ByteArray × Bool :=
  if Valid n width ∧ ((numeral 8 n.toNat).length : Int) ≤ width then (⟨(ahead (numeral 8 n.toNat) width).toArray⟩, true) else (⟨#[]⟩, false)
def putHexv (n : Int) : ByteArray × Bool :=
  if 0 ≤ n ∧ n ≤ 4294967295 then (⟨(ahead (numeral 16 n.toNat) 8).toArray⟩, true) else (⟨#[]⟩, false)
def decl (n width : Int) : List UInt8 := numeral 10 n.toNat ++ List.replicate (width.toNat - (numeral 10 n.toNat).length) 32
def putDecv (n width : Int) : ByteArray × Bool :=
  if Valid n width ∧ ((numeral 10 n.toNat).length : Int) ≤ width then (⟨(decl n width).toArray⟩, true) else (⟨#[]⟩, false)
end Go.Proofs.YtancidbbkoeokaaGreat

/- The text of a card; contracts of spec.l07Wide, spec.l07Octs and spec.PutCard. -/
namespace Go.Proofs.YtancidbbkoeokaaGreat
open Go.ChangeShapes Go.WideShapes Go.ChangeAt Go.RowKit Go.Deep

/-- The numbers of a card's head and their widths. -/
def flds (c : Card) : List (Int × Int) := [(0, 6), (c.Ino, 6), (c.Mode, 6), (c.Uid, 6), (c.Gid, 6), (c.Count, 6), (0, 6), (c.Time, 11), ((c.Path.size : Int) + 1, 6), ((c.Data.size : Int), 11)]
def octsOk (L : List (Int × Int)) : Bool := L.all fun x => (putOctv x.1 x.2).2
def octsB : List (Int × Int) → List UInt8
  | [] => []
  | x :: L => (putOctv x.1 x.2).1.data.toList ++ octsB L
def octsS (L : List (Int × Int)) : ByteArray := ⟨(octsB L).toArray⟩
def octsR (L : List (Int × Int)) : ByteArray := if octsOk L then octsS L else ⟨#[]⟩
/-- The text of a card: none where a number has no room. -/
def cardTextv (c : Card) : ByteArray := if octsOk (flds c) then ⟨#[48, 55, 48, 55, 48, 55]⟩ ++ octsS (flds c) ++ c.Path ++ ⟨#[0]⟩ ++ c.Data else ⟨#[]⟩
def wideC : List Int := [6, 6, 6, 6, 6, 6, 6, 11, 6, 11]
/-- A row of numbers. -/
def RowN (w : World) (g : Nat) (l : List Int) : Prop := ∀ i x, l[i]? = some x → w.cell? ⟨g, i, none⟩ = some (.int .i64 x)
theorem RowN.below {w w' : World} {g B : Nat} {l : List Int} (h : RowN w g l) (hb : Below B w w') (hg : g < B) : RowN w' g l := fun i x hx => (hb.cell (p := ⟨g, i, none⟩) hg).trans (h i x hx)
theorem RowN.of {w : World} {g : Nat} {l : List Int} {ty : TypeId} (h : w.heap[g]? = some (.cells (l.map (fun x => Value.int .i64 x)).toArray ty (0, 0))) : RowN w g l := by
  intro i x hx
  simp only [World.cell?, h]
  simp [hx]
end Go.Proofs.YtancidbbkoeokaaGreat

/- A card read at a place of a text: plain mathematics, and the text's pieces. -/
namespace Go.Proofs.YtancidbbkoeokaaGreat
open Go.ChangeShapes Go.WideShapes Go.ChangeAt Go.RowKit Go.Deep

def cum (k : Nat) : Nat := [0, 6, 12, 18, 24, 30, 36, 42, 53, 59, 70].getD k 0
def wid (k : Nat) : Nat := [6, 6, 6, 6, 6, 6, 6, 11, 6, 11].getD k 0
/-- The bytes of the k-th number of a card that begins at j. -/
def fB (s : ByteArray) (j k : Nat) : ByteArray := s.extract (j + 6 + cum k) (j + 6 + cum k + wid k)
def fN (s : ByteArray) (j k : Nat) : Int := (getOctv (fB s j k).data.toList).1
def fO (s : ByteArray) (j k : Nat) : Bool := (getOctv (fB s j k).data.toList).2
def allO (s : ByteArray) (j : Nat) : Bool := (List.range 10).all (fO s j)
def magicB : ByteArray := ⟨#[48, 55, 48, 55, 48, 55]⟩
def nameB (s : ByteArray) (j : Nat) : ByteArray := s.extract (j + 76) (j + 76 + (fN s j 8).toNat)
/-- The code of a card's reading at i. -/
def cdCode (s : ByteArray) (i : Int) : Int :=
  if i < 0 ∨ (s.size : Int) < i + 76 then 1
  else if ¬ s.extract i.toNat (i.toNat + 6) = magicB then 4
  else if allO s i.toNat = false then 3
  else if ¬ fN s i.toNat 0 = 0 ∨ ¬ fN s i.toNat 6 = 0 then 3
  else if (s.size : Int) < i + 76 + fN s i.toNat 8 + fN s i.toNat 9 then 1
  else if fN s i.toNat 8 = 0 ∨ ¬ ((cutv (nameB s i.toNat)).size : Int) = fN s i.toNat 8 - 1 then 4
  else 0
def cdCard (s : ByteArray) (i : Int) : Card := if cdCode s i = 0 then ⟨fN s i.toNat 1, fN s i.toNat 2, fN s i.toNat 3, fN s i.toNat 4, fN s i.toNat 5, fN s i.toNat 7, cutv (nameB s i.toNat), s.extract (i.toNat + 76 + (fN s i.toNat 8).toNat) (i.toNat + 76 + (fN s i.toNat 8).toNat + (fN s i.toNat 9).toNat)⟩ else zeroC
def cdNext (s : ByteArray) (i : Int) : Int := if cdCode s i = 0 then i + 76 + fN s i.toNat 8 + fN s i.toNat 9 else i
/-- What is said where the code is no 0. -/
def badCd (s : ByteArray) (i c : Int) : Prop := cdCode s i = c ∧ cdCard s i = zeroC ∧ cdNext s i = i
end Go.Proofs.YtancidbbkoeokaaGreat

/- Contracts of impl.(*odcHead).fields and impl.(*odcHead).digits. -/
namespace Go.Proofs.YtancidbbkoeokaaGreat
open Go.ChangeShapes Go.WideShapes Go.ChangeAt Go.RowKit Go.Deep

def offv (i : Nat) : Nat := [8, 0, 1, 2, 3, 4, 9, 5, 10, 11].getD i 0
def fieldCells (gh : Nat) : Array Value := #[.pointer (some ⟨gh, 8, none⟩), .int .i64 6, .pointer (some ⟨gh, 0, none⟩), .int .i64 6, .pointer (some ⟨gh, 1, none⟩), .int .i64 6, .pointer (some ⟨gh, 2, none⟩), .int .i64 6, .pointer (some ⟨gh, 3, none⟩), .int .i64 6, .pointer (some ⟨gh, 4, none⟩), .int .i64 6, .pointer (some ⟨gh, 9, none⟩), .int .i64 6, .pointer (some ⟨gh, 5, none⟩), .int .i64 11, .pointer (some ⟨gh, 10, none⟩), .int .i64 6, .pointer (some ⟨gh, 11, none⟩), .int .i64 11]
/-- What the digits of a list of numbers are, or the panic where one has no room. -/
def digE (L : List (Int × Int)) : Ending := if octsOk L then .returned (.string (octsS L)) else .panicked (panC 3)
end Go.Proofs.YtancidbbkoeokaaGreat

/- Contract of impl.(*odcHead).digits. -/
namespace Go.Proofs.YtancidbbkoeokaaGreat
open Go.ChangeShapes Go.WideShapes Go.ChangeAt Go.RowKit Go.Deep

/-- The numbers of a head, each at its place. -/
def NumsAt (w : World) (gh : Nat) (L : List (Int × Int)) : Prop := ∀ i x, L[i]? = some x → w.cell? ⟨gh, offv i, none⟩ = some (.int .i64 x.1)
theorem NumsAt.below {w w' : World} {gh B : Nat} {L : List (Int × Int)} (h : NumsAt w gh L) (hb : Below B w w') (hg : gh < B) : NumsAt w' gh L := fun i x hx => (hb.cell (p := ⟨gh, offv i, none⟩) hg).trans (h i x hx)
end Go.Proofs.YtancidbbkoeokaaGreat

/- '==' of two [2]int. -/
namespace Go.Proofs.YtancidbbkoeokaaGreat
end Go.Proofs.YtancidbbkoeokaaGreat

/- Contract of impl.odcHeadOf: the numbers of a card's head, each at its place. -/
namespace Go.Proofs.YtancidbbkoeokaaGreat
open Go.ChangeShapes Go.WideShapes Go.ChangeAt Go.RowKit Go.Deep

/-- The cells of a head of which the first k numbers are read. -/
def hdC (s : ByteArray) (j : Nat) : Nat → Array Value
  | 0 => #[.int .i64 0, .int .i64 0, .int .i64 0, .int .i64 0, .int .i64 0, .int .i64 0, .string ⟨#[]⟩, .string ⟨#[]⟩, .int .i64 0, .int .i64 0, .int .i64 0, .int .i64 0]
  | k + 1 => (hdC s j k).setIfInBounds (offv k) (.int .i64 (fN s j k))
theorem heap_newK (w : World) (o : Obj) (g : Nat) (hg : g = w.heap.size) : (w.alloc o).heap[g]? = some o := by subst hg; exact heap_lastG w o
theorem heap_setK {w : World} {g i : Nat} {cs : Array Value} {t : TypeId} {v : Value} (h : w.heap[g]? = some (.cells cs t (0, 0))) : (w.setCell ⟨g, i, none⟩ v).heap[g]? = some (.cells (cs.setIfInBounds i v) t (0, 0)) := by
  have hlt : g < w.heap.size := (Array.getElem?_eq_some_iff.1 h).1
  have hg : w.heap[g] = .cells cs t (0, 0) := (Array.getElem?_eq_some_iff.1 h).2
  simp [World.setCell, hlt, Array.getElem_modify, hg]
def hdL : List (Int × Int) := (List.range 10).map (fun k => (0, ((wid k : Nat) : Int)))
def hdE (s : ByteArray) (j : Nat) : Ending := if allO s j = true ∧ fN s j 0 = 0 ∧ fN s j 6 = 0 then .returned (.agg (hdC s j 10)) else .panicked (panC 3)
end Go.Proofs.YtancidbbkoeokaaGreat

/- The deferred function of impl.cardFormat.read: what it does for a frame that panics with a code, and for one that returns. -/
namespace Go.Proofs.YtancidbbkoeokaaGreat
open Go.ChangeShapes Go.WideShapes Go.ChangeAt Go.RowKit

theorem rd_catch (gc gl : Nat) (c y0 : Int) (v0 : Value) (w : World) (hc : ¬ c = 0) (h1 : gc ≠ gl)
    (hgc : w.heap[gc]? = some (.cells #[.int .i64 y0] 3 (0, 0))) (hgl : w.heap[gl]? = some (.cells #[v0] 26 (0, 0))) :
    CallsD Tryz.prog 52 #[.pointer (some ⟨gc, 0, none⟩), .pointer (some ⟨gl, 0, none⟩)] (.panicking [{ v := .iface 99 (.agg #[.int .i64 c]), recovered := false }]) w fun e u' w' =>
      e = .returned (.tuple #[]) ∧ u' = .panicking [{ v := .iface 99 (.agg #[.int .i64 c]), recovered := true }] ∧ ∃ w1, Below w.heap.size w w1 ∧ w' = ((w1.setCell ⟨gc, 0, none⟩ (.int .i64 c)).alloc (.cells #[] 41)).setCell ⟨gl, 0, none⟩ (.slice (some ⟨(w1.setCell ⟨gc, 0, none⟩ (.int .i64 c)).heap.size, 0, none⟩) 0 0) := by
  have lc := (Array.getElem?_eq_some_iff.1 hgc).1
  have ll := (Array.getElem?_eq_some_iff.1 hgl).1
  refine callsD_of_wpS Tryz.func52 rfl fun c₀ cs hu => ?_
  apply wpS_seq
  apply wpS_region
  simp [wpOpsS, go_sem, recoverD, hu, Tryz.ntmps52, Exit.thenS]
  refine (cardCode_some c _).mono ?_
  rintro e w1 ⟨rfl, hb⟩
  have bc := (hb.block gc lc).trans hgc
  have bl := (hb.block gl ll).trans hgl
  have hll : gl < w1.heap.size := (Array.getElem?_eq_some_iff.1 bl).1
  have hx1 : w1.cell? ⟨gc, 0, none⟩ = some (.int .i64 y0) := by simp [World.cell?, bc]
  have hz1 : w1.frozen? ⟨gc, 0, none⟩ = false := by simp [World.frozen?, bc]
  simp [go_sem, hx1, hz1]
  generalize hwA : w1.setCell ⟨gc, 0, none⟩ (.int .i64 c) = wA
  have ac : wA.cell? ⟨gc, 0, none⟩ = some (.int .i64 c) := by rw [← hwA]; first | exact World.cell?_setCell_same _ _ _ hx1 | simp [go_sem, hx1]
  have al : wA.heap[gl]? = some (.cells #[v0] 26 (0, 0)) := by rw [← hwA, Below.heap_setCell _ _ _ _ (by simp; omega)]; exact bl
  have hla : gl < wA.heap.size := (Array.getElem?_eq_some_iff.1 al).1
  have al2 : (wA.alloc (.cells #[] 41)).heap[gl]? = some (.cells #[v0] 26 (0, 0)) := (((Below.refl wA.heap.size wA).alloc (Nat.le_refl _) _).block gl hla).trans al
  have xl : (wA.alloc (.cells #[] 41)).cell? ⟨gl, 0, none⟩ = some v0 := by simp [World.cell?, al2]
  have zl : (wA.alloc (.cells #[] 41)).frozen? ⟨gl, 0, none⟩ = false := by simp [World.frozen?, al2]
  apply wpS_seq
  apply wpS_region
  simp [wpOpsS, go_sem, ac, Exit.thenS]
  refine wpS_cond (t := true) (by simp [Act.eval, Array.replicate, hc]) ?_
  simp only [if_true]
  apply wpS_region
  simp [wpOpsS, go_sem, xl, zl, bodyPostS, results, Tryz.results52]
  refine ⟨w1, hb, ?_⟩
  have hsz : wA.heap.size = w1.heap.size := by rw [← hwA]; simp
  rw [hwA, hsz]
theorem rd_idle (gc gl : Nat) (y0 : Int) (w : World) (hgc : w.heap[gc]? = some (.cells #[.int .i64 y0] 3 (0, 0))) :
    CallsD Tryz.prog 52 #[.pointer (some ⟨gc, 0, none⟩), .pointer (some ⟨gl, 0, none⟩)] .returning w fun e u' w' =>
      e = .returned (.tuple #[]) ∧ u' = .returning ∧ ∃ w1, Below w.heap.size w w1 ∧ w' = w1.setCell ⟨gc, 0, none⟩ (.int .i64 0) := by
  have lc := (Array.getElem?_eq_some_iff.1 hgc).1
  refine callsD_of_wpS Tryz.func52 rfl fun c₀ cs hu => ?_
  apply wpS_seq
  apply wpS_region
  simp [wpOpsS, go_sem, recoverD, hu, Tryz.ntmps52, Exit.thenS]
  refine (cardCode_nil _).mono ?_
  rintro e w1 ⟨rfl, hb⟩
  have bc := (hb.block gc lc).trans hgc
  have hx1 : w1.cell? ⟨gc, 0, none⟩ = some (.int .i64 y0) := by simp [World.cell?, bc]
  have hz1 : w1.frozen? ⟨gc, 0, none⟩ = false := by simp [World.frozen?, bc]
  simp [go_sem, hx1, hz1]
  generalize hwA : w1.setCell ⟨gc, 0, none⟩ (.int .i64 0) = wA
  have ac : wA.cell? ⟨gc, 0, none⟩ = some (.int .i64 0) := by rw [← hwA]; first | exact World.cell?_setCell_same _ _ _ hx1 | simp [go_sem, hx1]
  apply wpS_seq
  apply wpS_region
  simp [wpOpsS, go_sem, ac, Exit.thenS]
  refine wpS_cond (t := false) (by simp [Act.eval, Array.replicate]) ?_
  simp only [Bool.false_eq_true, if_false]
  refine wpS_of_wp (wp_skip ?_)
  cases c₀
  simp_all [bodyPostS, results, Tryz.results52]
  exact ⟨w1, hb, hwA.symm⟩
end Go.Proofs.YtancidbbkoeokaaGreat

/- What the reading of a whole archive answers. -/
namespace Go.Proofs.YtancidbbkoeokaaGreat
open Go.ChangeShapes Go.WideShapes Go.ChangeAt Go.RowKit Go.Deep

def getv (O : Int × List Card) (P : List Ent → ByteArray) (s : ByteArray) : Int × List Ent :=
  if ¬ O.1 = 0 then (O.1, []) else if P (entriesv O.2) = s then (0, entriesv O.2) else (4, [])
theorem getv_bad {O : Int × List Card} {P : List Ent → ByteArray} {s : ByteArray} (h : ¬ O.1 = 0) : getv O P s = (O.1, []) := by rw [getv, if_pos h]
theorem getv_ok {O : Int × List Card} {P : List Ent → ByteArray} {s : ByteArray} (h : O.1 = 0) (hp : P (entriesv O.2) = s) : getv O P s = (0, entriesv O.2) := by rw [getv, if_neg (by omega), if_pos hp]
theorem getv_no {O : Int × List Card} {P : List Ent → ByteArray} {s : ByteArray} (h : O.1 = 0) (hp : ¬ P (entriesv O.2) = s) : getv O P s = (4, []) := by rw [getv, if_neg (by omega), if_neg hp]
theorem small_entriesv {C : List Card} (hC : SmallC C) : SmallL (entriesv C) := by
  rw [entriesv_I]
  split
  · exact small_entsI hC C.length (Nat.le_refl _)
  · intro e he; cases he
theorem strR_ne {a b : ByteArray} (h : ¬ a = b) : (a.toList == b.toList) = false := by
  simp only [beq_eq_false_iff_ne, ne_eq]
  intro e
  apply h
  rw [ba_toList, ba_toList] at e
  exact ba_ext e
theorem ownE_set {w : World} {base g : Nat} {v x : Value} {L : List Ent} (h : OwnE w base v L) (hg : some g ≠ v.ownBlock) : OwnE (w.setCell ⟨g, 0, none⟩ x) base v L := by
  obtain ⟨g', cap, rfl, _⟩ := h.open
  refine h.kept (row := some g) (grown_setC (grownOC w (some g)) 0 x) ?_
  intro e
  exact hg (by simp only [Value.ownBlock]; exact e.symm)
end Go.Proofs.YtancidbbkoeokaaGreat

/- Contract of impl.cardFormat.read at the format with headers in words. -/
namespace Go.Proofs.YtancidbbkoeokaaGreat
open Go.ChangeShapes Go.WideShapes Go.ChangeAt Go.RowKit Go.Deep

theorem three (w : World) (o0 o1 o2 : Obj) : ((((w.alloc o0).alloc o1).alloc o2).heap[w.heap.size]? = some o0) ∧ ((((w.alloc o0).alloc o1).alloc o2).heap[w.heap.size + 1]? = some o1) ∧ ((((w.alloc o0).alloc o1).alloc o2).heap[w.heap.size + 1 + 1]? = some o2) ∧ Below w.heap.size w (((w.alloc o0).alloc o1).alloc o2) ∧ (((w.alloc o0).alloc o1).alloc o2).heap.size = w.heap.size + 3 := by
  refine ⟨?_, ?_, ?_, ?_, by simp⟩
  · exact (((Below.refl (w.alloc o0).heap.size (w.alloc o0)).alloc (Nat.le_refl _) o1).alloc (by simp) o2).block w.heap.size (by simp) |>.trans (heap_newK _ _ _ rfl)
  · exact ((Below.refl ((w.alloc o0).alloc o1).heap.size ((w.alloc o0).alloc o1)).alloc (Nat.le_refl _) o2).block (w.heap.size + 1) (by simp) |>.trans (heap_newK _ _ _ (by simp))
  · exact heap_newK _ _ _ (by simp)
  · exact (((Below.refl _ _).alloc (Nat.le_refl _) _).alloc (by simp) _).alloc (by simp; omega) _
theorem res_read {tmps : Array Value} {w : World} {gl gc : Nat} {v : Value} {c : Int} (h4 : tmps.getD 4 undef = .pointer (some ⟨gl, 0, none⟩)) (h5 : tmps.getD 5 undef = .pointer (some ⟨gc, 0, none⟩))
    (hl : w.cell? ⟨gl, 0, none⟩ = some v) (hc : w.cell? ⟨gc, 0, none⟩ = some (.int .i64 c)) :
    (results Tryz.f28 tmps).run Tryz.prog w = .ok (.tuple #[v, .int .i64 c]) w := by
  have h4' : tmps[4]?.getD undef = .pointer (some ⟨gl, 0, none⟩) := by simpa using h4
  have h5' : tmps[5]?.getD undef = .pointer (some ⟨gc, 0, none⟩) := by simpa using h5
  have hl4 : (loadVar 26 ⟨gl, 0, none⟩).run Tryz.prog w = .ok v w := by simp [go_sem, hl]
  have hl5 : (loadVar 3 ⟨gc, 0, none⟩).run Tryz.prog w = .ok (.int .i64 c) w := by simp [go_sem, hc]
  simp [results, Tryz.results28, h4', h5', asAddr, hl4, hl5]
/-- The world behind the deferred function where a code was told. -/
theorem cat_end {w w2 wd : World} {c y : Int} {lv : Value} (hb : Below w2.heap.size w2 wd) (B : Below w.heap.size w w2) (hs : w.heap.size + 3 ≤ w2.heap.size) (hl : w2.heap[w.heap.size + 1]? = some (.cells #[lv] 26 (0, 0))) (hc : w2.heap[w.heap.size + 1 + 1]? = some (.cells #[.int .i64 y] 3 (0, 0))) :
    ∃ v, OwnE (((wd.setCell ⟨w.heap.size + 1 + 1, 0, none⟩ (.int .i64 c)).alloc (.cells #[] 41)).setCell ⟨w.heap.size + 1, 0, none⟩ (.slice (some ⟨(wd.setCell ⟨w.heap.size + 1 + 1, 0, none⟩ (.int .i64 c)).heap.size, 0, none⟩) 0 0)) w.heap.size v [] ∧
      (((wd.setCell ⟨w.heap.size + 1 + 1, 0, none⟩ (.int .i64 c)).alloc (.cells #[] 41)).setCell ⟨w.heap.size + 1, 0, none⟩ (.slice (some ⟨(wd.setCell ⟨w.heap.size + 1 + 1, 0, none⟩ (.int .i64 c)).heap.size, 0, none⟩) 0 0)).cell? ⟨w.heap.size + 1, 0, none⟩ = some v ∧
      (((wd.setCell ⟨w.heap.size + 1 + 1, 0, none⟩ (.int .i64 c)).alloc (.cells #[] 41)).setCell ⟨w.heap.size + 1, 0, none⟩ (.slice (some ⟨(wd.setCell ⟨w.heap.size + 1 + 1, 0, none⟩ (.int .i64 c)).heap.size, 0, none⟩) 0 0)).cell? ⟨w.heap.size + 1 + 1, 0, none⟩ = some (.int .i64 c) ∧
      Below w.heap.size w (((wd.setCell ⟨w.heap.size + 1 + 1, 0, none⟩ (.int .i64 c)).alloc (.cells #[] 41)).setCell ⟨w.heap.size + 1, 0, none⟩ (.slice (some ⟨(wd.setCell ⟨w.heap.size + 1 + 1, 0, none⟩ (.int .i64 c)).heap.size, 0, none⟩) 0 0)) := by
  have l1 := (hb.block _ (by omega)).trans hl
  have c1 := (hb.block _ (by omega)).trans hc
  have b1 := B.trans (hb.mono B.size)
  have z1 := hb.size
  have c2 := heap_setK (i := 0) (v := .int .i64 c) c1
  have l2 := (Below.heap_setCell wd ⟨w.heap.size + 1 + 1, 0, none⟩ (.int .i64 c) (w.heap.size + 1) (by simp)).trans l1
  have b2 := b1.setCell (p := ⟨w.heap.size + 1 + 1, 0, none⟩) (by simp; omega) (.int .i64 c)
  have z2 : (wd.setCell ⟨w.heap.size + 1 + 1, 0, none⟩ (.int .i64 c)).heap.size = wd.heap.size := by simp
  generalize wd.setCell ⟨w.heap.size + 1 + 1, 0, none⟩ (.int .i64 c) = we at *
  have NB := (Below.refl we.heap.size we).alloc (Nat.le_refl _) (.cells #[] 41)
  have o3 := OwnE.lit (w := we) (base := w.heap.size) (by omega)
  have l3 := (NB.block _ (by omega)).trans l2
  have c3 := (NB.block _ (by omega)).trans c2
  have b3 := b2.trans (NB.mono b2.size)
  have hgs : w.heap.size + 1 < we.heap.size := by omega
  have hgc : w.heap.size + 1 + 1 < we.heap.size := by omega
  generalize we.alloc (.cells #[] 41) = wf at *
  refine ⟨_, ownE_set o3 (by simp only [Value.ownBlock, ne_eq, Option.some.injEq]; omega), ?_, ?_, b3.setCell (p := ⟨w.heap.size + 1, 0, none⟩) (by simp) _⟩
  · have h9 := heap_setK (i := 0) (v := .slice (some ⟨we.heap.size, 0, none⟩) 0 0) l3
    simp [World.cell?, h9]
  · have h9 := (Below.heap_setCell wf ⟨w.heap.size + 1, 0, none⟩ (.slice (some ⟨we.heap.size, 0, none⟩) 0 0) (w.heap.size + 1 + 1) (by simp)).trans c3
    simp [World.cell?, h9]
set_option maxHeartbeats 3200000 in
set_option maxRecDepth 8000 in
theorem read_bin (s : ByteArray) (crc : Bool) (gk : Nat) (w : World) (hs : s.size ≤ 1048576) (hgk : gk < w.heap.size) (hck : w.heap[gk]? = some (.cells #[.bool crc] 4 (0, 0))) :
    Calls Tryz.prog 28 #[.agg #[.func (.func 38) #[] #[], .func (.func 39) #[] #[.pointer (some ⟨gk, 0, none⟩)], .func (.func 41) #[] #[.pointer (some ⟨gk, 0, none⟩)]], .string s] w fun e w' => ∃ v, e = .returned (.tuple #[v, .int .i64 (getv (binO s crc) (fun L => putBwT L crc) s).1]) ∧ OwnE w' w.heap.size v (getv (binO s crc) (fun L => putBwT L crc) s).2 ∧ Below w.heap.size w w' := by
  have hmf : ∀ (fn : Fn) (first cap : Array Value) (w : World), (Instr.makeFunc fn first cap).run Tryz.prog w = .ok (.func fn first cap) w := fun _ _ _ _ => rfl
  have HCards : Hid (∀ w', Below w.heap.size w w' → _) := Lib.hid (fun w' hb => cards_bin s crc gk w' hs (Nat.lt_of_lt_of_le hgk hb.size) ((hb.block gk hgk).trans hck))
  have HWr : Hid (∀ (L : List Ent) (n g cap : Nat) (w' : World), n = L.length → n ≤ 1048576 → n ≤ cap → g < w'.heap.size → SmallL L → RowE w' g L → Below w.heap.size w w' → Calls Tryz.prog 22 #[.agg #[.func (.func 38) #[] #[], .func (.func 39) #[] #[.pointer (some ⟨gk, 0, none⟩)], .func (.func 41) #[] #[.pointer (some ⟨gk, 0, none⟩)]], .slice (some ⟨g, 0, none⟩) n cap] w' fun e w'' => e = .returned (.tuple #[.string (putBwT L crc), .bool (putBwB L)]) ∧ Below w'.heap.size w' w'') := Lib.hid (fun L n g cap w' hn hm hcap hg hsm h1 hb => write_bin (fun ino mo u1 gi cn t p d hi w hp hd => putBin_impl ino mo u1 gi cn t p d hi w hp hd) L n g cap crc gk w' hn hm hcap hg hsm (Nat.lt_of_lt_of_le hgk hb.size) ((hb.block gk hgk).trans hck) h1)
  have HB := Lib.hid (fun h => getv_bad (O := binO s crc) (P := (fun L => putBwT L crc)) (s := s) h)
  have HY := Lib.hid (fun h hp => getv_ok (O := binO s crc) (P := (fun L => putBwT L crc)) (s := s) h hp)
  have HN := Lib.hid (fun h hp => getv_no (O := binO s crc) (P := (fun L => putBwT L crc)) (s := s) h hp)
  have hE := entriesv_le (binO s crc).2
  have hSm := fun h => small_entriesv (C := (binO s crc).2) h
  generalize getv (binO s crc) (fun L => putBwT L crc) s = G at HB HY HN ⊢
  generalize binO s crc = O at HCards HB HY HN hE hSm
  obtain ⟨oc, oq⟩ := O
  simp only at HCards HB HY HN hE hSm
  have HE := Lib.hid hE
  have HSm := Lib.hid hSm
  clear hE hSm hgk hck
  go_enter_defers Tryz.func28, Tryz.ntmps28
  go_upto_region 2 with fail
  obtain ⟨p0, p1, p2, p3, p4⟩ := three w (.cells #[.func (.func 38) #[] #[], .func (.func 39) #[] #[.pointer (some ⟨gk, 0, none⟩)], .func (.func 41) #[] #[.pointer (some ⟨gk, 0, none⟩)]] 50 (0, 0)) (.cells #[.slice none 0 0] 26 (0, 0)) (.cells #[.int .i64 0] 3 (0, 0))
  generalize hw1 : World.alloc (World.alloc (World.alloc w _) _) _ = w1
  replace p0 : w1.heap[w.heap.size]? = some (.cells #[.func (.func 38) #[] #[], .func (.func 39) #[] #[.pointer (some ⟨gk, 0, none⟩)], .func (.func 41) #[] #[.pointer (some ⟨gk, 0, none⟩)]] 50 (0, 0)) := by rw [← hw1]; exact p0
  replace p1 : w1.heap[w.heap.size + 1]? = some (.cells #[.slice none 0 0] 26 (0, 0)) := by rw [← hw1]; exact p1
  replace p2 : w1.heap[w.heap.size + 1 + 1]? = some (.cells #[.int .i64 0] 3 (0, 0)) := by rw [← hw1]; exact p2
  replace p3 : Below w.heap.size w w1 := by rw [← hw1]; exact p3
  replace p4 : w1.heap.size = w.heap.size + 3 := by rw [← hw1]; exact p4
  clear hw1
  have QF := Lib.hid p0
  have QL := Lib.hid p1
  have QC := Lib.hid p2
  have QB := Lib.hid p3
  have QS : Hid (w.heap.size + 3 ≤ w1.heap.size) := Lib.hid (by omega)
  have f0 : w1.cell? ⟨w.heap.size, 0, none⟩ = some (.func (.func 38) #[] #[]) := by simp [World.cell?, p0]
  have f1 : w1.cell? ⟨w.heap.size, 1, none⟩ = some (.func (.func 39) #[] #[.pointer (some ⟨gk, 0, none⟩)]) := by simp [World.cell?, p0]
  have f2 : w1.cell? ⟨w.heap.size, 2, none⟩ = some (.func (.func 41) #[] #[.pointer (some ⟨gk, 0, none⟩)]) := by simp [World.cell?, p0]
  clear p0 p1 p2 p3 p4
  go_wp2_with fail
  refine (HCards.out _ QB.out).mono ?_
  rintro e w2 ⟨hok, hbad, hb⟩
  replace QF := Lib.hid ((hb.block _ (by have := QS.out; omega)).trans QF.out)
  replace QL := Lib.hid ((hb.block _ (by have := QS.out; omega)).trans QL.out)
  replace QC := Lib.hid ((hb.block _ (by have := QS.out; omega)).trans QC.out)
  have hzz := hb.size
  replace QB := Lib.hid (QB.out.trans (hb.mono QB.out.size))
  replace QS : Hid (w.heap.size + 3 ≤ w2.heap.size) := Lib.hid (by have := QS.out; omega)
  clear hb f0 f1 f2 HCards
  by_cases hoc : ¬ oc = 0
  · obtain rfl := hbad hoc
    have HF := Lib.hid (HB.out hoc)
    clear HB HY HN hok hbad HWr HE HSm
    show Leaves Tryz.prog _ _ _ _ (.panicking (panC oc)) w2
    refine leaves_cons (f := 52) (args := #[.pointer (some ⟨w.heap.size + 1 + 1, 0, none⟩), .pointer (some ⟨w.heap.size + 1, 0, none⟩)]) (by simp) (by simp [go_sem]) ?_
    refine (rd_catch (w.heap.size + 1 + 1) (w.heap.size + 1) oc 0 _ _ hoc (by omega) QC.out QL.out).mono ?_
    rintro e u' wc ⟨rfl, rfl, wd, hbd, rfl⟩
    have U := Lib.hid (cat_end (w := w) (w2 := w2) (c := oc) hbd QB.out QS.out QL.out QC.out)
    clear hbd
    generalize hwe : World.setCell _ ⟨w.heap.size + 1, 0, none⟩ _ = we at U ⊢
    obtain ⟨v9, o9, k9, c9, b9⟩ := U.out
    show ∃ v, (results Tryz.f28 _).run Tryz.prog we = .ok v we ∧ _
    exact ⟨_, res_read (gl := w.heap.size + 1) (gc := w.heap.size + 1 + 1) (v := v9) (c := oc) rfl rfl k9 c9, v9, by rw [HF.out], by rw [HF.out]; exact o9, b9⟩
  have hoc : oc = 0 := Decidable.byContradiction hoc
  subst hoc
  obtain ⟨v, rfl, ho, hl, hq⟩ := hok rfl
  have HY2 := Lib.hid (fun hp => HY.out rfl hp)
  have HN2 := Lib.hid (fun hp => HN.out rfl hp)
  have HOw := Lib.hid ho
  have hlq : oq.length ≤ 1048576 := by omega
  have HSC : Hid (SmallC oq) := Lib.hid (fun c hc => by have := (hq c hc).1; omega)
  have HWf : Hid (∀ c ∈ oq, c.wf) := Lib.hid (fun c hc => (hq c hc).2)
  clear hok hbad HB HY HN ho hq
  go_wp2_with fail
  refine (entriesOf_own oq _ v _ hlq HSC.out HWf.out HOw.out).mono ?_
  rintro e w3 ⟨v3, ok, rfl, hoe, hb⟩
  have HSL := Lib.hid (HSm.out HSC.out)
  have HEl := Lib.hid HE.out
  replace QF := Lib.hid ((hb.block _ (by have := QS.out; omega)).trans QF.out)
  replace QL := Lib.hid ((hb.block _ (by have := QS.out; omega)).trans QL.out)
  replace QC := Lib.hid ((hb.block _ (by have := QS.out; omega)).trans QC.out)
  have hz3 := hb.size
  have hb2 : w.heap.size + 3 ≤ w2.heap.size := QS.out
  replace QB := Lib.hid (QB.out.trans (hb.mono QB.out.size))
  replace QS : Hid (w.heap.size + 3 ≤ w3.heap.size) := Lib.hid (by omega)
  clear hb HOw HSC HWf HE HSm hzz hl
  generalize entriesv oq = L at hoe HY2 HN2 HSL HEl
  obtain ⟨gL, cL, rfl, hrL, hzL, hbL, hcL, hoL⟩ := hoe.open
  have l1 : w3.cell? ⟨w.heap.size + 1, 0, none⟩ = some (.slice none 0 0) := by simp [World.cell?, QL.out]
  have z1 : w3.frozen? ⟨w.heap.size + 1, 0, none⟩ = false := by simp [World.frozen?, QL.out]
  have hgn : gL ≠ w.heap.size + 1 := by omega
  have HO3 := Lib.hid (ownE_set (g := w.heap.size + 1) (x := .slice (some ⟨gL, 0, none⟩) L.length cL) hoe (by simp only [Value.ownBlock, ne_eq, Option.some.injEq]; omega))
  clear hoe hrL hoL
  go_upto_region 3 with fail
  generalize hw4 : World.setCell w3 _ _ = w4
  have QF4 := Lib.hid ((Below.heap_setCell w3 ⟨w.heap.size + 1, 0, none⟩ (.slice (some ⟨gL, 0, none⟩) L.length cL) w.heap.size (by simp)).trans QF.out)
  have QL4 := Lib.hid (heap_setK (i := 0) (v := .slice (some ⟨gL, 0, none⟩) L.length cL) QL.out)
  have QC4 := Lib.hid ((Below.heap_setCell w3 ⟨w.heap.size + 1, 0, none⟩ (.slice (some ⟨gL, 0, none⟩) L.length cL) (w.heap.size + 1 + 1) (by simp)).trans QC.out)
  have QB4 := Lib.hid (QB.out.setCell (p := ⟨w.heap.size + 1, 0, none⟩) (by simp) (.slice (some ⟨gL, 0, none⟩) L.length cL))
  have QS4 : Hid (w.heap.size + 3 ≤ w4.heap.size) := Lib.hid (by rw [← hw4]; simp; have := QS.out; omega)
  rw [hw4] at QF4 QL4 QC4 QB4 HO3
  clear hw4 QF QL QC QB QS l1 z1 hz3
  simp only [List.setIfInBounds_toArray, List.set_cons_zero] at QL4
  have f0 : w4.cell? ⟨w.heap.size, 0, none⟩ = some (.func (.func 38) #[] #[]) := by simp [World.cell?, QF4.out]
  have f1 : w4.cell? ⟨w.heap.size, 1, none⟩ = some (.func (.func 39) #[] #[.pointer (some ⟨gk, 0, none⟩)]) := by simp [World.cell?, QF4.out]
  have f2 : w4.cell? ⟨w.heap.size, 2, none⟩ = some (.func (.func 41) #[] #[.pointer (some ⟨gk, 0, none⟩)]) := by simp [World.cell?, QF4.out]
  have l4 : w4.cell? ⟨w.heap.size + 1, 0, none⟩ = some (.slice (some ⟨gL, 0, none⟩) L.length cL) := by simp [World.cell?, QL4.out]
  have HW2 := Lib.hid (HWr.out L L.length gL cL w4 rfl (by have := HEl.out; omega) hcL (HO3.out.row.2.1) HSL.out HO3.out.row.1 QB4.out)
  have HO4 := Lib.hid (show w2.heap.size ≤ gL from hbL)
  clear HWr HSL
  go_wp2_with fail
  refine HW2.out.mono ?_
  rintro e w5 ⟨rfl, hb⟩
  have QL := Lib.hid ((hb.block _ (by have := QS4.out; omega)).trans QL4.out)
  have QC := Lib.hid ((hb.block _ (by have := QS4.out; omega)).trans QC4.out)
  have hz5 := hb.size
  have QB := Lib.hid (QB4.out.trans (hb.mono QB4.out.size))
  have QS : Hid (w.heap.size + 3 ≤ w5.heap.size) := Lib.hid (by have := QS4.out; omega)
  have HO5 := Lib.hid (HO3.out.keep hb)
  clear hb f0 f1 f2 l4 HW2 QF4 QL4 QC4 QB4 QS4 HO3 hz5
  generalize (putBwT L crc) = pt at HY2 HN2 ⊢
  generalize putBwB L = pb at *
  by_cases hp : ¬ pt = s
  · have HF := Lib.hid (HN2.out hp)
    have e1 : (pt.toList == s.toList) = false := strR_ne hp
    clear HY2 HN2 hp
    go_wp2_with fail
    refine (demand_no 4 _).mono ?_
    rintro e w6 ⟨rfl, rfl⟩
    clear e1 HO5
    show Leaves Tryz.prog _ _ _ _ (.panicking (panC 4)) w6
    refine leaves_cons (f := 52) (args := #[.pointer (some ⟨w.heap.size + 1 + 1, 0, none⟩), .pointer (some ⟨w.heap.size + 1, 0, none⟩)]) (by simp) (by simp [go_sem]) ?_
    refine (rd_catch (w.heap.size + 1 + 1) (w.heap.size + 1) 4 0 _ _ (by decide) (by omega) QC.out QL.out).mono ?_
    rintro e u' wc ⟨rfl, rfl, wd, hbd, rfl⟩
    have U := Lib.hid (cat_end (w := w) (w2 := w6) (c := 4) hbd QB.out QS.out QL.out QC.out)
    clear hbd
    generalize hwe : World.setCell _ ⟨w.heap.size + 1, 0, none⟩ _ = we at U ⊢
    obtain ⟨v9, o9, k9, c9, b9⟩ := U.out
    show ∃ v, (results Tryz.f28 _).run Tryz.prog we = .ok v we ∧ _
    exact ⟨_, res_read (gl := w.heap.size + 1) (gc := w.heap.size + 1 + 1) (v := v9) (c := 4) rfl rfl k9 c9, v9, by rw [HF.out], by rw [HF.out]; exact o9, b9⟩
  have hp : pt = s := Decidable.byContradiction hp
  have HF := Lib.hid (HY2.out hp)
  have e1 : (pt.toList == s.toList) = true := by rw [hp]; simp
  clear HY2 HN2 hp
  have l5 : w5.cell? ⟨w.heap.size + 1, 0, none⟩ = some (.slice (some ⟨gL, 0, none⟩) L.length cL) := by simp [World.cell?, QL.out]
  have z5 : w5.frozen? ⟨w.heap.size + 1, 0, none⟩ = false := by simp [World.frozen?, QL.out]
  have c5 : w5.cell? ⟨w.heap.size + 1 + 1, 0, none⟩ = some (.int .i64 0) := by simp [World.cell?, QC.out]
  have y5 : w5.frozen? ⟨w.heap.size + 1 + 1, 0, none⟩ = false := by simp [World.frozen?, QC.out]
  go_wp2_with fail
  refine (demand_ok 4 _).mono ?_
  rintro e w6 ⟨rfl, rfl⟩
  have hgl3 : w.heap.size + 3 ≤ gL := by have := HO4.out; omega
  clear e1 HO4 hgn
  go_wp2
  have L7 := heap_setK (i := 0) (v := .slice (some ⟨gL, 0, none⟩) L.length cL) QL.out
  have C7 := (Below.heap_setCell w6 ⟨w.heap.size + 1, 0, none⟩ (.slice (some ⟨gL, 0, none⟩) L.length cL) (w.heap.size + 1 + 1) (by simp)).trans QC.out
  have B7 := QB.out.setCell (p := ⟨w.heap.size + 1, 0, none⟩) (by simp) (.slice (some ⟨gL, 0, none⟩) L.length cL)
  have O7 := ownE_set (g := w.heap.size + 1) (x := .slice (some ⟨gL, 0, none⟩) L.length cL) HO5.out (by simp only [Value.ownBlock, ne_eq, Option.some.injEq]; omega)
  have S7 : w.heap.size + 3 ≤ (w6.setCell ⟨w.heap.size + 1, 0, none⟩ (.slice (some ⟨gL, 0, none⟩) L.length cL)).heap.size := by simp; exact QS.out
  simp only [List.setIfInBounds_toArray, List.set_cons_zero] at L7
  clear l5 z5 c5 y5 QL QC QB QS HO5
  generalize World.setCell w6 ⟨w.heap.size + 1, 0, none⟩ _ = w7 at L7 C7 B7 O7 S7 ⊢
  have L8 := (Below.heap_setCell w7 ⟨w.heap.size + 1 + 1, 0, none⟩ (.int .i64 0) (w.heap.size + 1) (by simp)).trans L7
  have C8 := heap_setK (i := 0) (v := .int .i64 0) C7
  have B8 := B7.setCell (p := ⟨w.heap.size + 1 + 1, 0, none⟩) (by simp; omega) (.int .i64 0)
  have O8 := ownE_set (g := w.heap.size + 1 + 1) (x := .int .i64 0) O7 (by simp only [Value.ownBlock, ne_eq, Option.some.injEq]; omega)
  have S8 : w.heap.size + 3 ≤ (w7.setCell ⟨w.heap.size + 1 + 1, 0, none⟩ (.int .i64 0)).heap.size := by simp; exact S7
  simp only [List.setIfInBounds_toArray, List.set_cons_zero] at C8
  clear L7 C7 B7 O7 S7
  generalize World.setCell w7 ⟨w.heap.size + 1 + 1, 0, none⟩ _ = w8 at L8 C8 B8 O8 S8 ⊢
  refine leaves_cons (f := 52) (args := #[.pointer (some ⟨w.heap.size + 1 + 1, 0, none⟩), .pointer (some ⟨w.heap.size + 1, 0, none⟩)]) (by simp) (by simp [go_sem]) ?_
  refine (rd_idle (w.heap.size + 1 + 1) (w.heap.size + 1) 0 _ C8).mono ?_
  rintro e u' wc ⟨rfl, rfl, wd, hbd, rfl⟩
  have L9 := (Below.heap_setCell wd ⟨w.heap.size + 1 + 1, 0, none⟩ (.int .i64 0) (w.heap.size + 1) (by simp)).trans ((hbd.block _ (by omega)).trans L8)
  have C9 := heap_setK (i := 0) (v := .int .i64 0) ((hbd.block _ (by omega)).trans C8)
  have B9 := (B8.trans (hbd.mono B8.size)).setCell (p := ⟨w.heap.size + 1 + 1, 0, none⟩) (by simp; omega) (.int .i64 0)
  have O9 := ownE_set (g := w.heap.size + 1 + 1) (x := .int .i64 0) (O8.keep hbd) (by simp only [Value.ownBlock, ne_eq, Option.some.injEq]; omega)
  generalize World.setCell wd ⟨w.heap.size + 1 + 1, 0, none⟩ _ = we at L9 C9 B9 O9 ⊢
  show ∃ v, (results Tryz.f28 _).run Tryz.prog we = .ok v we ∧ _
  exact ⟨_, res_read (gl := w.heap.size + 1) (gc := w.heap.size + 1 + 1) (v := .slice (some ⟨gL, 0, none⟩) L.length cL) (c := 0) rfl rfl (by simp [World.cell?, L9]) (by simp [World.cell?, C9]), _, by rw [HF.out], by rw [HF.out]; exact O9.weak (by omega), B9⟩
end Go.Proofs.YtancidbbkoeokaaGreat

/- Contract of impl.PutCpio. -/
namespace Go.Proofs.YtancidbbkoeokaaGreat
open Go.ChangeShapes Go.WideShapes Go.ChangeAt Go.RowKit Go.Deep

theorem binFormat_any (crc : Bool) (w : World) : Calls Tryz.prog 21 #[.bool crc] w fun e w' => e = .returned (.agg #[.func (.func 38) #[] #[], .func (.func 39) #[] #[.pointer (some ⟨w.heap.size, 0, none⟩)], .func (.func 41) #[] #[.pointer (some ⟨w.heap.size, 0, none⟩)]]) ∧ w.heap.size < w'.heap.size ∧ w'.heap[w.heap.size]? = some (.cells #[.bool crc] 4 (0, 0)) ∧ Below w.heap.size w w' := by
  have hmf : ∀ (fn : Fn) (first cap : Array Value) (w : World), (Instr.makeFunc fn first cap).run Tryz.prog w = .ok (.func fn first cap) w := fun _ _ _ _ => rfl
  go_enter Tryz.func21, Tryz.ntmps21
  go_upto_region 1 with fail
  generalize hwb : World.alloc w _ = wb
  have K0 : Hid (wb.heap[w.heap.size]? = some (.cells #[.bool crc] 4 (0, 0))) := Lib.hid (by rw [← hwb]; exact heap_newW _ _ _ rfl)
  have B0 : Hid (Below w.heap.size w wb) := Lib.hid (by rw [← hwb]; exact (Below.refl _ _).alloc (Nat.le_refl _) _)
  have hsb : wb.heap.size = w.heap.size + 1 := by rw [← hwb]; simp
  clear hwb
  have HS0 := run_storeVar_new (P := Tryz.prog) wb 50 #[.nilFunc, .nilFunc, .nilFunc] #[.func (.func 38) #[] #[], .func (.func 39) #[] #[.pointer (some ⟨w.heap.size, 0, none⟩)], .func (.func 41) #[] #[.pointer (some ⟨w.heap.size, 0, none⟩)]] (by rw [Tryz.sizeCF]; rfl) rfl (by simp [Value.oneCell'])
  rw [hsb] at HS0
  have HS := Lib.hid HS0
  have HR := Lib.hid (heap_newW wb (.cells #[.func (.func 38) #[] #[], .func (.func 39) #[] #[.pointer (some ⟨w.heap.size, 0, none⟩)], .func (.func 41) #[] #[.pointer (some ⟨w.heap.size, 0, none⟩)]] 50 (0, 0)) (w.heap.size + 1) hsb.symm)
  have NB := (Below.refl wb.heap.size wb).alloc (Nat.le_refl _) (.cells #[.func (.func 38) #[] #[], .func (.func 39) #[] #[.pointer (some ⟨w.heap.size, 0, none⟩)], .func (.func 41) #[] #[.pointer (some ⟨w.heap.size, 0, none⟩)]] 50)
  have K1 := Lib.hid ((NB.block w.heap.size (by omega)).trans K0.out)
  have B1 := Lib.hid (B0.out.trans (NB.mono (by omega)))
  have Z1 := Lib.hid (NB.size)
  have HSB := Lib.hid hsb
  clear HS0 K0 B0 NB hsb
  go_wp2_with ((with_reducible refine wpList_store_eqW rfl 50 _ _ rfl ⟨w.heap.size + 1, 0, none⟩ ?_ ?_ HS.out ?_); rfl; rfl)
  refine bodyPost_ret (results_cell_row rfl _ _ (w.heap.size + 1) _ #[.func (.func 38) #[] #[], .func (.func 39) #[] #[.pointer (some ⟨w.heap.size, 0, none⟩)], .func (.func 41) #[] #[.pointer (some ⟨w.heap.size, 0, none⟩)]] (0, 0) _ rfl HR.out Tryz.underlying50 rfl (by rw [Tryz.sizeCF]; rfl)) rfl ?_
  exact ⟨rfl, by have := Z1.out; have := HSB.out; omega, K1.out, B1.out⟩
end Go.Proofs.YtancidbbkoeokaaGreat

/- What GetCpio answers, and the ways in which both readings come to it. -/
namespace Go.Proofs.YtancidbbkoeokaaGreat
open Go.ChangeShapes Go.WideShapes Go.ChangeAt Go.RowKit Go.Deep

/-- The byte order: whether the text begins with the magic, high byte first. -/
def hiOf (s : ByteArray) : Bool := decide (2 ≤ s.size) && ((s.extract 0 2).toList == [113, 199])
def gBn (s : ByteArray) (crc : Bool) : Int × List Ent := getv (binO s crc) (fun L => putBwT L crc) s
theorem lastBin_le (crc : Bool) : (binTextv lastC crc).size ≤ 39 := by
  have h := binText_le lastC crc
  have hp1 : lastC.Path.size = 10 := rfl
  have hp2 : lastC.Data.size = 0 := rfl
  omega
theorem putBw_empty (crc : Bool) : (putBwT [] crc).size ≤ 39 := by
  unfold putBwT
  split
  · have h := lastBin_le crc
    rw [show bwT crc (cardsv []) ([] : List Ent).length = ⟨#[]⟩ from rfl, ByteArray.size_append]
    have z : (⟨#[]⟩ : ByteArray).size = 0 := rfl
    omega
  · exact Nat.zero_le _
section
variable {s : ByteArray} {Q : List Card} {c : Int} {crc : Bool}
theorem gBn_bad (h : binO s crc = (c, [])) (hc : ¬ c = 0) : gBn s crc = (c, []) := by rw [gBn, getv_bad (by rw [h]; exact hc), h]
theorem okS_nil : okS [] = true := by
  have h : listOkv [] = true := rfl
  have e : cardsv [] = [] := by
    have := cardsv_le []
    exact List.eq_nil_of_length_eq_zero (by simpa using this)
  rw [okS, show entsS [] ([] : List Card).length = [] from rfl, h, e]
  rfl
theorem entriesv_no (h : okS Q = false) : entriesv Q = [] := by rw [entriesv, h]; rfl
theorem gBn_list (h : binO s crc = (0, Q)) (hz : Q.length * 26 + 26 ≤ s.size) (hk : okS Q = false) : gBn s crc = (4, []) := by
  rw [gBn, getv_no (by rw [h])]
  rw [h]
  show ¬ putBwT (entriesv Q) crc = s
  rw [entriesv_no hk]
  intro e
  have h1 := putBw_empty crc
  rw [e] at h1
  cases Q with
  | nil => rw [okS_nil] at hk; cases hk
  | cons a Q => rw [List.length_cons] at hz; omega
theorem gBn_fit (h : binO s crc = (0, Q)) (hz : Q.length * 26 + 26 ≤ s.size) (hk : putBwB (entriesv Q) = false) : gBn s crc = (4, []) := by
  rw [gBn, getv_no (by rw [h])]
  rw [h]
  show ¬ putBwT (entriesv Q) crc = s
  intro e
  rw [putBwT, hk] at e
  have h2 : s.size = 0 := by rw [← e]; rfl
  omega
theorem gBn_ne (h : binO s crc = (0, Q)) (hk : ¬ putBwT (entriesv Q) crc = s) : gBn s crc = (4, []) := by
  rw [gBn, getv_no (by rw [h])]
  rw [h]
  exact hk
theorem gBn_yes (h : binO s crc = (0, Q)) (hk : putBwT (entriesv Q) crc = s) : gBn s crc = (0, entriesv Q) := by
  rw [gBn, getv_ok (by rw [h]), h]
  rw [h]
  exact hk
end
end Go.Proofs.YtancidbbkoeokaaGreat

/- Contract of impl.GetCpio. -/
namespace Go.Proofs.YtancidbbkoeokaaGreat
open Go.ChangeShapes Go.WideShapes Go.ChangeAt Go.RowKit Go.Deep

theorem bprefL_any (s : ByteArray) (w : World) (hs : s.size ≤ 1048576) :
    Calls Tryz.prog 50 #[.string s, .string ⟨#[113, 199]⟩] w fun e w' => e = .returned (.bool (hiOf s)) ∧ w' = w := by
  by_cases h6 : 2 ≤ s.size
  · have hS : ∀ w, (Instr.slice 9 (.string s) none (some (.int .i64 2)) none).run Tryz.prog w = .ok (.string (s.extract 0 2)) w := fun w => by
      have h1 := run_slice_string_h (P := Tryz.prog) (w := w) (t := 9) (s := s) Tryz.underlying9 .i64 (2 : Int) (by omega) (by omega)
      exact h1
    have h2 : (2 : Int) ≤ (s.size : Int) := by omega
    have HE : Hid (hiOf s = ((s.extract 0 2).toList == [113, 199])) := Lib.hid (by rw [hiOf, decide_eq_true h6, Bool.true_and])
    generalize hiOf s = r at HE
    clear h6
    go_enter Tryz.func50, Tryz.ntmps50
    go_wp2_with fail
    go_ret
    exact ⟨by rw [HE.out]; rfl, rfl⟩
  · have h2 : ¬ (2 : Int) ≤ (s.size : Int) := by omega
    have HE : Hid (hiOf s = false) := Lib.hid (by rw [hiOf, decide_eq_false h6, Bool.false_and])
    generalize hiOf s = r at HE
    clear h6
    go_enter Tryz.func50, Tryz.ntmps50
    go_wp2_with fail
    go_ret
    exact ⟨by rw [HE.out]; rfl, rfl⟩
theorem bprefN_any (s : ByteArray) (w : World) (hs : s.size ≤ 1048576) :
    Calls Tryz.prog 26 #[.string s, .string ⟨#[113, 199]⟩] w fun e w' => e = .returned (.bool (hiOf s)) ∧ w' = w := by
  have H := Lib.hid (fun w => bprefL_any s w hs)
  generalize hiOf s = r at H ⊢
  clear hs
  go_enter Tryz.func26, Tryz.ntmps26
  go_wp2_with fail
  refine (H.out _).mono ?_
  rintro e w1 ⟨rfl, rfl⟩
  go_wp2_with fail
  go_ret
  exact ⟨rfl, rfl⟩
def bBn (s : ByteArray) : Bool := hiOf s && ((gBn s (hiOf s)).1 == 0)
theorem getCpio_impl (s : ByteArray) (w : World) (hs : s.size ≤ 1048576) :
    Calls Tryz.prog 11 #[.string s] w fun e w' => ∃ v, e = .returned (.tuple #[v, .bool (bBn s), .int .i64 (gBn s (hiOf s)).1]) ∧ OwnE w' w.heap.size v (gBn s (hiOf s)).2 ∧ Below w.heap.size w w' := by
  have HPf := Lib.hid (fun w => bprefN_any s w hs)
  have HBn : Hid (bBn s = (hiOf s && ((gBn s (hiOf s)).1 == 0))) := Lib.hid rfl
  generalize bBn s = bb at HBn ⊢
  generalize hiOf s = crc at HPf HBn ⊢
  have HR := Lib.hid (fun w' (hb : Below w.heap.size w w') gk hgk hck => read_bin s crc gk w' hs hgk hck)
  rw [show getv (binO s crc) (fun L => putBwT L crc) s = gBn s crc from rfl] at HR
  generalize gBn s crc = G at HR HBn ⊢
  obtain ⟨c, L⟩ := G
  simp only at HR HBn ⊢
  clear hs
  go_enter Tryz.func11, Tryz.ntmps11
  go_wp2_with fail
  refine (put16_impl 29127 true _).mono ?_
  rintro e wp ⟨rfl, hbp⟩
  rw [show put16v 29127 true = ⟨#[113, 199]⟩ from by decide]
  go_wp2_with fail
  refine (HPf.out _).mono ?_
  rintro e w0 ⟨rfl, rfl⟩
  go_wp2_with fail
  refine (binFormat_any crc _).mono ?_
  rintro e w1 ⟨rfl, hz, hk, hb⟩
  have B := Lib.hid (btE hbp hb)
  have HR2 := Lib.hid (HR.out w1 B.out w0.heap.size hz hk)
  clear hb hz hk HR HPf hbp
  go_wp2_with fail
  refine HR2.out.mono ?_
  rintro e w2 ⟨v, rfl, ho, hb⟩
  have O := Lib.hid (ho.weak B.out.size)
  have B2 := Lib.hid (btE B.out hb)
  clear hb ho HR2
  cases crc with
  | false =>
    have HF : Hid (bb = false) := Lib.hid (by rw [HBn.out]; rfl)
    clear HBn
    go_wp2_with fail
    go_ret3
    exact ⟨v, by rw [HF.out]; rfl, O.out, B2.out⟩
  | true =>
    by_cases hc : c = 0
    · subst hc
      have HF : Hid (bb = true) := Lib.hid (by rw [HBn.out]; rfl)
      clear HBn
      go_wp2_with fail
      go_ret3
      exact ⟨v, by rw [HF.out]; rfl, O.out, B2.out⟩
    · have e1 : (c == 0) = false := by simpa using hc
      have HF : Hid (bb = false) := Lib.hid (by rw [HBn.out, e1]; rfl)
      clear HBn
      go_wp2_with fail
      go_ret3
      exact ⟨v, by rw [HF.out]; first | rfl | simp [hc], O.out, B2.out⟩
end Go.Proofs.YtancidbbkoeokaaGreat

/- Contract of spec.l07Closed. -/
namespace Go.Proofs.YtancidbbkoeokaaGreat
open Go.ChangeShapes Go.WideShapes Go.ChangeAt Go.RowKit Go.Deep

def closedC (ended ok : Bool) : Int := if ended then (if ok then 0 else 4) else 5
set_option maxHeartbeats 1600000 in
set_option maxRecDepth 8000 in
theorem closed_spec (C : List Card) (n g cap : Nat) (ended : Bool) (w : World) (hn : n = C.length) (hm : n ≤ 1048576) (hcap : n ≤ cap) (hg : g < w.heap.size) (hsm : SmallC C) (hwf : ∀ c ∈ C, c.wf) (h1 : RowC w g C) :
    Calls Tryz.prog 25 #[.slice (some ⟨g, 0, none⟩) n cap, .bool ended] w fun e w' => ∃ v, e = .returned (.tuple #[v, .int .i64 (closedC ended (okS C))]) ∧ OwnE w' w.heap.size v (if ended then entriesv C else []) ∧ Below w.heap.size w w' := by
  have HE := Lib.hid (entriesOf_spec C n g cap w hn hm hcap hg hsm hwf h1)
  have HN : Hid (okS C = false → entriesv C = []) := Lib.hid (fun h => by rw [entriesv, h]; rfl)
  generalize entriesv C = L at HE HN ⊢
  generalize okS C = ok at HE HN ⊢
  clear hn hm hcap hg hsm hwf h1
  cases ended with
  | false =>
    go_enter Tryz.func25, Tryz.ntmps25
    go_wp2_with fail
    go_ret2
    exact ⟨_, rfl, OwnE.lit (Nat.le_refl _), (Below.refl _ _).alloc (Nat.le_refl _) _⟩
  | true =>
    cases ok with
    | false =>
      obtain rfl := HN.out rfl
      go_enter Tryz.func25, Tryz.ntmps25
      go_wp2_with fail
      refine HE.out.mono ?_
      rintro e w1 ⟨v, rfl, ho, hb⟩
      have B := Lib.hid hb
      clear hb ho
      go_wp2_with fail
      go_ret2
      exact ⟨_, rfl, OwnE.lit B.out.size, B.out.alloc B.out.size _⟩
    | true =>
      go_enter Tryz.func25, Tryz.ntmps25
      go_wp2_with fail
      refine HE.out.mono ?_
      rintro e w1 ⟨v, rfl, ho, hb⟩
      have B := Lib.hid hb
      have O := Lib.hid ho
      clear hb ho
      go_wp2_with fail
      go_ret2
      exact ⟨v, rfl, O.out, B.out⟩
end Go.Proofs.YtancidbbkoeokaaGreat
