/- Contract of impl.PutCard. -/
import Derived.Test.YtpimeekcnndhiaaDoorCardDig
import Derived.Test.YtpimeekcnndhiaaDoorCatchP
import Derived.Test.YtpimeekcnndhiaaDoorRegPan
namespace Go.Proofs.YtpimeekcnndhiaaDoor
open Go.ChangeShapes Go.WideShapes Go.ChangeAt Go.RowKit Go.Deep

theorem heap_newAt (w : World) (o : Obj) (g : Nat) (hg : g = w.heap.size) : (w.alloc o).heap[g]? = some o := by subst hg; exact heap_lastG w o
theorem setCell_sameP {w : World} {b : Nat} {v : Value} (h : w.cell? ⟨b, 0, none⟩ = some v) : w.setCell ⟨b, 0, none⟩ v = w := by
  have e : (w.setCell ⟨b, 0, none⟩ v).heap = w.heap := by
    unfold World.setCell
    apply Array.ext
    · simp
    · intro i h1 h2
      simp only [Array.getElem_modify]
      split
      · rename_i hbi
        subst hbi
        simp only [World.cell?, Array.getElem?_eq_getElem h2] at h
        split
        · rename_i c el fz hc
          rw [hc] at h
          simp at h
          simp only [Option.isSome_none, Bool.false_eq_true, if_false]
          rw [hc]
          congr 1
          apply Array.ext
          · simp
          · intro j g1 g2
            rw [Array.getElem_setIfInBounds]
            split
            · rename_i hj
              subst hj
              rw [Array.getElem?_eq_getElem g2] at h
              simpa using h.symm
            · rfl
        · rfl
      · rfl
  have e2 : w.setCell ⟨b, 0, none⟩ v = { w with heap := (w.setCell ⟨b, 0, none⟩ v).heap } := rfl
  rw [e2, e]
theorem nums_of {w : World} {gh : Nat} {ino mo u1 gi cn t z0 z1 ps ds : Int} {p d : ByteArray} {ty : TypeId} (h : w.heap[gh]? = some (.cells #[.int .i64 ino, .int .i64 mo, .int .i64 u1, .int .i64 gi, .int .i64 cn, .int .i64 t, .string p, .string d, .int .i64 z0, .int .i64 z1, .int .i64 ps, .int .i64 ds] ty (0, 0))) : NumsAt w gh [(z0, 6), (ino, 6), (mo, 6), (u1, 6), (gi, 6), (cn, 6), (z1, 6), (t, 11), (ps, 6), (ds, 11)] := by
  intro i x hx
  simp only [World.cell?, h]
  match i, hx with
  | 0, hx => simp [offv] at hx ⊢; simp [← hx]
  | 1, hx => simp [offv] at hx ⊢; simp [← hx]
  | 2, hx => simp [offv] at hx ⊢; simp [← hx]
  | 3, hx => simp [offv] at hx ⊢; simp [← hx]
  | 4, hx => simp [offv] at hx ⊢; simp [← hx]
  | 5, hx => simp [offv] at hx ⊢; simp [← hx]
  | 6, hx => simp [offv] at hx ⊢; simp [← hx]
  | 7, hx => simp [offv] at hx ⊢; simp [← hx]
  | 8, hx => simp [offv] at hx ⊢; simp [← hx]
  | 9, hx => simp [offv] at hx ⊢; simp [← hx]
  | i + 10, hx => simp at hx
set_option maxHeartbeats 6400000 in
set_option maxRecDepth 8000 in
theorem putCard_impl (ino mo u1 gi cn t : Int) (p d : ByteArray) (w : World) (hp : p.size ≤ 4194304) (hd : d.size ≤ 4194304) (hT : Tabs w) :
    Calls Tryd.prog 7 #[.agg #[.int .i64 ino, .int .i64 mo, .int .i64 u1, .int .i64 gi, .int .i64 cn, .int .i64 t, .string p, .string d]] w fun e w' => e = .returned (.string (cardTextv ⟨ino, mo, u1, gi, cn, t, p, d⟩)) ∧ Below w.heap.size w w' := by
  have hmf : ∀ (fn : Fn) (first cap : Array Value) (w : World), (Instr.makeFunc fn first cap).run Tryd.prog w = .ok (.func fn first cap) w := fun _ _ _ _ => rfl
  have HDg := Lib.hid (fun gh w hg hN hT => digits_any (flds ⟨ino, mo, u1, gi, cn, t, p, d⟩) gh w rfl hg hN hT)
  have HE : Hid (digE (flds ⟨ino, mo, u1, gi, cn, t, p, d⟩) = if octsOk (flds ⟨ino, mo, u1, gi, cn, t, p, d⟩) then .returned (.string (octsS (flds ⟨ino, mo, u1, gi, cn, t, p, d⟩))) else .panicked (panC 3)) := Lib.hid rfl
  have HV : Hid (cardTextv ⟨ino, mo, u1, gi, cn, t, p, d⟩ = if octsOk (flds ⟨ino, mo, u1, gi, cn, t, p, d⟩) then ⟨#[48, 55, 48, 55, 48, 55]⟩ ++ octsS (flds ⟨ino, mo, u1, gi, cn, t, p, d⟩) ++ p ++ ⟨#[0]⟩ ++ d else ⟨#[]⟩) := Lib.hid rfl
  have hle := octsS_le (flds ⟨ino, mo, u1, gi, cn, t, p, d⟩)
  have hln : (flds ⟨ino, mo, u1, gi, cn, t, p, d⟩).length = 10 := rfl
  have HNs := Lib.hid (fun (w : World) (gh : Nat) (h : w.heap[gh]? = some (.cells #[.int .i64 ino, .int .i64 mo, .int .i64 u1, .int .i64 gi, .int .i64 cn, .int .i64 t, .string p, .string d, .int .i64 0, .int .i64 0, .int .i64 ((p.size : Int) + 1), .int .i64 (d.size : Int)] 36 (0, 0))) => nums_of (w := w) (gh := gh) h)
  have HT := Lib.hid hT
  generalize cardTextv ⟨ino, mo, u1, gi, cn, t, p, d⟩ = r at HV
  generalize digE (flds ⟨ino, mo, u1, gi, cn, t, p, d⟩) = E at HDg HE
  generalize octsOk (flds ⟨ino, mo, u1, gi, cn, t, p, d⟩) = ok at HV HE
  generalize octsS (flds ⟨ino, mo, u1, gi, cn, t, p, d⟩) = rs at HV HE hle
  have hos : rs.size ≤ 200 := by omega
  clear hln hle hT
  go_enter_defers Tryd.func7, Tryd.ntmps7
  go_upto_region 3 with fail
  generalize hw1 : World.alloc (World.alloc (World.alloc w _) _) _ = w1
  have XC : Hid (CardO w1 w.heap.size ⟨ino, mo, u1, gi, cn, t, p, d⟩) := Lib.hid (by rw [← hw1]; exact (CardO.new w ⟨ino, mo, u1, gi, cn, t, p, d⟩).below (B := w.heap.size + 1) (((Below.refl _ _).alloc (by simp) _).alloc (by simp) _) (by omega))
  have XT : Hid (w1.heap[w.heap.size + 1]? = some (.cells #[.string ⟨#[]⟩] 9 (0, 0))) := Lib.hid (by rw [← hw1]; exact (((Below.refl _ _).alloc (Nat.le_refl _) _).block (w.heap.size + 1) (by simp)).trans (heap_newAt _ _ _ (by simp)))
  have XH : Hid (w1.heap[w.heap.size + 1 + 1]? = some (.cells #[.int .i64 ino, .int .i64 mo, .int .i64 u1, .int .i64 gi, .int .i64 cn, .int .i64 t, .string p, .string d, .int .i64 0, .int .i64 0, .int .i64 ((p.size : Int) + 1), .int .i64 (d.size : Int)] 36 (0, 0))) := Lib.hid (by rw [← hw1]; exact heap_newAt _ _ _ (by simp))
  have B1 : Hid (Below w.heap.size w w1) := Lib.hid (by rw [← hw1]; exact (((Below.refl _ _).alloc (Nat.le_refl _) _).alloc (by simp) _).alloc (by simp; omega) _)
  have hs1 : w1.heap.size = w.heap.size + 3 := by rw [← hw1]; simp
  clear hw1
  have HD := Lib.hid (fun w' (hb : Below w1.heap.size w1 w') => HDg.out (w.heap.size + 1 + 1) w' (by have := hb.size; omega) (HNs.out w' _ ((hb.block _ (by omega)).trans XH.out)) (HT.out.below (B1.out.trans (hb.mono (by omega)))))
  clear HDg HNs HT XH
  cases ok with
  | false =>
    have HF : Hid (r = ⟨#[]⟩) := Lib.hid (by rw [HV.out]; rfl)
    rw [show E = .panicked (panC 3) from by rw [HE.out]; rfl] at HD
    clear HV HE
    have KC : Hid (∀ w', Below w1.heap.size w1 w' → w'.cell? ⟨w.heap.size, 6, none⟩ = some (.string p) ∧ w'.cell? ⟨w.heap.size, 7, none⟩ = some (.string d)) := Lib.hid (fun w' hb => by
      obtain ⟨k0, k1, k2, k3, k4, k5, k6, k7⟩ := (XC.out.below hb (by omega)).at.zero
      exact ⟨k6, k7⟩)
    refine wp_region_invQ (by kernel_rfl) (fun w' => Below w1.heap.size w1 w') (fun x y => Below x.heap.size x y) (fun dq vq _ => match dq with | 16 => vq = .pointer (some ⟨w.heap.size, 6, none⟩) | 17 => vq = .string p | 20 => vq = .pointer (some ⟨w.heap.size, 7, none⟩) | 21 => vq = .string d | 14 => False | 15 => False | 18 => False | 19 => False | 22 => False | _ => True) (by kernel_rfl) ((Below.refl _ _).drew) (fun _ _ _ _ _ _ h => h) ?hopsp ?hendp
    case hopsp =>
      simp only [List.forall_mem_cons]
      refine ⟨?p14, ?p15, ?p16, ?p17, ?p18, ?p19, ?p20, ?p21, ?p22, ?pst, fun _ h => by cases h⟩
      case p14 =>
        intro a w2 hC hV hI hd hsz hold
        have e3 : a.eval (.tmp 3) = .pointer (some ⟨w.heap.size + 1 + 1, 0, none⟩) := (hI 3 (by simp [Op.operands, Call.operands]) (by kernel_rfl)).trans rfl
        have f3 : a.tmps.getD 3 undef = .pointer (some ⟨w.heap.size + 1 + 1, 0, none⟩) := e3
        have g3 : a.tmps[3]?.getD undef = .pointer (some ⟨w.heap.size + 1 + 1, 0, none⟩) := by rw [← Array.getD_eq_getD_getElem?]; exact e3
        have t2 : a.tmps.getD 2 undef = .pointer (some ⟨w.heap.size + 1, 0, none⟩) := (hold 2 (by simp)).trans rfl
        have t2b : a.tmps[2]?.getD undef = .pointer (some ⟨w.heap.size + 1, 0, none⟩) := by rw [← Array.getD_eq_getD_getElem?]; exact t2
        refine op_pan (f := 12) (args := #[.pointer (some ⟨w.heap.size + 1 + 1, 0, none⟩)]) (ch := panC 3) ?_ ((HD.out w2 hC).mono ?_)
        · (clear hV hI hC hold hd t2 t2b; go_simp <;> (first | rfl | simp))
        · rintro e y ⟨rfl, hb⟩
          refine ⟨rfl, ?_⟩
          have hx : y.cell? ⟨w.heap.size + 1, 0, none⟩ = some (.string ⟨#[]⟩) := by
            have h9 := (hb.block (w.heap.size + 1) (by have := hC.size; omega)).trans ((hC.block (w.heap.size + 1) (by omega)).trans XT.out)
            simp [World.cell?, h9]
          have hz : y.frozen? ⟨w.heap.size + 1, 0, none⟩ = false := by
            have h9 := (hb.block (w.heap.size + 1) (by have := hC.size; omega)).trans ((hC.block (w.heap.size + 1) (by omega)).trans XT.out)
            simp [World.frozen?, h9]
          have By := B1.out.trans ((hC.trans (hb.mono hC.size)).mono (by omega))
          have hys := By.size
          have hlt : w.heap.size + 1 < y.heap.size := by have := hb.size; have := hC.size; omega
          show Leaves Tryd.prog _ a.tmps _ a.defers (.panicking (panC 3)) y
          rw [hd]
          refine leaves_cons (f := 10) (args := #[.pointer (some ⟨w.heap.size + 1, 0, none⟩)]) (by simp) (by simp [go_sem]) ?_
          refine (put_catch (w.heap.size + 1) 3 ⟨#[]⟩ _ (by decide) hlt hx hz).mono ?_
          rintro e u' w3 ⟨rfl, rfl, w4, hb4, rfl⟩
          have hx4 : w4.cell? ⟨w.heap.size + 1, 0, none⟩ = some (.string ⟨#[]⟩) := (hb4.cell (p := ⟨w.heap.size + 1, 0, none⟩) hlt).trans hx
          have B4 : Below w.heap.size w (w4.setCell ⟨w.heap.size + 1, 0, none⟩ (.string ⟨#[]⟩)) := (By.trans (hb4.mono hys)).setCell (p := ⟨w.heap.size + 1, 0, none⟩) (by simp) _
          rw [setCell_sameP hx4] at B4 ⊢
          simp [Leaves, settle, results, Tryd.results7, go_sem, t2b, hx4, HF.out]
          exact B4
      case p15 =>
        intro a w2 hC hV hI hd hsz hold
        exact (show False from hV 14 (by simp [Op.operands]) (by kernel_rfl)).elim
      case p16 =>
        refine opQ_of ?_
        intro Q a w2 hC hV hI
        have e1 : a.eval (.tmp 1) = .pointer (some ⟨w.heap.size, 0, none⟩) := (hI 1 (by simp [Op.operands]) (by kernel_rfl)).trans rfl
        have f1 : a.tmps.getD 1 undef = .pointer (some ⟨w.heap.size, 0, none⟩) := e1
        have g1 : a.tmps[1]?.getD undef = .pointer (some ⟨w.heap.size, 0, none⟩) := by rw [← Array.getD_eq_getD_getElem?]; exact e1
        refine op_val (.pointer (some ⟨w.heap.size, 6, none⟩)) ?_ hC (Below.refl _ _) (by intro d hd; cases hd; exact rfl)
        (clear hV hI hC; go_simp <;> (first | rfl | simp))
      case p17 =>
        refine opQ_of ?_
        intro Q a w2 hC hV hI
        have e16 : a.eval (.tmp 16) = .pointer (some ⟨w.heap.size, 6, none⟩) := hV 16 (by simp [Op.operands]) (by kernel_rfl)
        have f16 : a.tmps.getD 16 undef = .pointer (some ⟨w.heap.size, 6, none⟩) := e16
        have g16 : a.tmps[16]?.getD undef = .pointer (some ⟨w.heap.size, 6, none⟩) := by rw [← Array.getD_eq_getD_getElem?]; exact e16
        have hK := KC.out w2 hC
        refine op_val (.string p) ?_ hC (Below.refl _ _) (by intro d hd; cases hd; exact rfl)
        (clear hV hI hC; go_simp <;> (first | rfl | simp))
      case p18 =>
        intro a w2 hC hV hI hd hsz hold
        exact (show False from hV 15 (by simp [Op.operands]) (by kernel_rfl)).elim
      case p19 =>
        intro a w2 hC hV hI hd hsz hold
        exact (show False from hV 18 (by simp [Op.operands]) (by kernel_rfl)).elim
      case p20 =>
        refine opQ_of ?_
        intro Q a w2 hC hV hI
        have e1 : a.eval (.tmp 1) = .pointer (some ⟨w.heap.size, 0, none⟩) := (hI 1 (by simp [Op.operands]) (by kernel_rfl)).trans rfl
        have f1 : a.tmps.getD 1 undef = .pointer (some ⟨w.heap.size, 0, none⟩) := e1
        have g1 : a.tmps[1]?.getD undef = .pointer (some ⟨w.heap.size, 0, none⟩) := by rw [← Array.getD_eq_getD_getElem?]; exact e1
        refine op_val (.pointer (some ⟨w.heap.size, 7, none⟩)) ?_ hC (Below.refl _ _) (by intro d hd; cases hd; exact rfl)
        (clear hV hI hC; go_simp <;> (first | rfl | simp))
      case p21 =>
        refine opQ_of ?_
        intro Q a w2 hC hV hI
        have e20 : a.eval (.tmp 20) = .pointer (some ⟨w.heap.size, 7, none⟩) := hV 20 (by simp [Op.operands]) (by kernel_rfl)
        have f20 : a.tmps.getD 20 undef = .pointer (some ⟨w.heap.size, 7, none⟩) := e20
        have g20 : a.tmps[20]?.getD undef = .pointer (some ⟨w.heap.size, 7, none⟩) := by rw [← Array.getD_eq_getD_getElem?]; exact e20
        have hK := KC.out w2 hC
        refine op_val (.string d) ?_ hC (Below.refl _ _) (by intro d hd; cases hd; exact rfl)
        (clear hV hI hC; go_simp <;> (first | rfl | simp))
      case p22 =>
        intro a w2 hC hV hI hd hsz hold
        exact (show False from hV 19 (by simp [Op.operands]) (by kernel_rfl)).elim
      case pst =>
        intro a w2 hC hV hI hd hsz hold
        exact (show False from hV 22 (by simp [Op.operands]) (by kernel_rfl)).elim
    case hendp =>
      intro f w2 hC hall
      simp only [List.forall_mem_cons] at hall
      exact (show False from hall.1 14 rfl).elim
  | true =>
    have HF : Hid (r = ⟨#[48, 55, 48, 55, 48, 55]⟩ ++ rs ++ p ++ ⟨#[0]⟩ ++ d) := Lib.hid (by rw [HV.out]; rfl)
    rw [show E = .returned (.string rs) from by rw [HE.out]; rfl] at HD
    clear HV HE
    have z6 : (⟨#[48, 55, 48, 55, 48, 55]⟩ : ByteArray).size = 6 := rfl
    have z1 : (⟨#[0]⟩ : ByteArray).size = 1 := rfl
    have KC : Hid (∀ w', Below w1.heap.size w1 w' → w'.cell? ⟨w.heap.size, 6, none⟩ = some (.string p) ∧ w'.cell? ⟨w.heap.size, 7, none⟩ = some (.string d)) := Lib.hid (fun w' hb => by
      obtain ⟨k0, k1, k2, k3, k4, k5, k6, k7⟩ := (XC.out.below hb (by omega)).at.zero
      exact ⟨k6, k7⟩)

    obtain ⟨x15, hx15⟩ : ∃ x : ByteArray, x = ⟨#[48, 55, 48, 55, 48, 55]⟩ ++ rs := ⟨_, rfl⟩
    obtain ⟨x18, hx18⟩ : ∃ x : ByteArray, x = x15 ++ p := ⟨_, rfl⟩
    obtain ⟨x19, hx19⟩ : ∃ x : ByteArray, x = x18 ++ ⟨#[0]⟩ := ⟨_, rfl⟩
    obtain ⟨x22, hx22⟩ : ∃ x : ByteArray, x = x19 ++ d := ⟨_, rfl⟩
    have zx15 : x15.size ≤ 206 := by rw [hx15, ByteArray.size_append]; omega
    have zx18 : x18.size ≤ 4194510 := by rw [hx18, ByteArray.size_append]; omega
    have zx19 : x19.size ≤ 4194511 := by rw [hx19, ByteArray.size_append]; omega
    have zx22 : x22.size ≤ 8388815 := by rw [hx22, ByteArray.size_append]; omega
    have HA15 : Hid (∀ w, (Op.stringOp .add ⟨#[48, 55, 48, 55, 48, 55]⟩ rs).run Tryd.prog w = .ok (.string x15) w) := Lib.hid (fun w => by rw [hx15]; exact run_string_add_sum w _ _ (by omega))
    have HA18 : Hid (∀ w, (Op.stringOp .add x15 p).run Tryd.prog w = .ok (.string x18) w) := Lib.hid (fun w => by rw [hx18]; exact run_string_add_sum w _ _ (by omega))
    have HA19 : Hid (∀ w, (Op.stringOp .add x18 ⟨#[0]⟩).run Tryd.prog w = .ok (.string x19) w) := Lib.hid (fun w => by rw [hx19]; exact run_string_add_sum w _ _ (by omega))
    have HA22 : Hid (∀ w, (Op.stringOp .add x19 d).run Tryd.prog w = .ok (.string x22) w) := Lib.hid (fun w => by rw [hx22]; exact run_string_add_sum w _ _ (by omega))
    have HX15 := Lib.hid hx15
    have HX18 := Lib.hid hx18
    have HX19 := Lib.hid hx19
    have HX22 := Lib.hid hx22
    clear hx15 hx18 hx19 hx22
    refine wp_region_cut 9 (by kernel_rfl) (fun w' => Below w1.heap.size w1 w') (fun x y => Below x.heap.size x y) (fun dq vq _ => match dq with | 14 => vq = .string rs | 15 => vq = .string x15 | 16 => vq = .pointer (some ⟨w.heap.size, 6, none⟩) | 17 => vq = .string p | 18 => vq = .string x18 | 19 => vq = .string x19 | 20 => vq = .pointer (some ⟨w.heap.size, 7, none⟩) | 21 => vq = .string d | 22 => vq = .string x22 | _ => True) (by kernel_rfl) (by kernel_rfl) ((Below.refl _ _).drew) (fun _ _ _ _ _ _ h => h) (by simp) ?hops ?hend
    case hops =>
      simp only [List.take_succ_cons, List.take_zero, List.forall_mem_cons]
      refine ⟨?o14, ?o15, ?o16, ?o17, ?o18, ?o19, ?o20, ?o21, ?o22, fun _ h => by cases h⟩
      case o14 =>
        intro Q a w2 hC hV hI
        have e3 : a.eval (.tmp 3) = .pointer (some ⟨w.heap.size + 1 + 1, 0, none⟩) := (hI 3 (by simp [Op.operands, Call.operands]) (by kernel_rfl)).trans rfl
        have f3 : a.tmps.getD 3 undef = .pointer (some ⟨w.heap.size + 1 + 1, 0, none⟩) := e3
        have g3 : a.tmps[3]?.getD undef = .pointer (some ⟨w.heap.size + 1 + 1, 0, none⟩) := by rw [← Array.getD_eq_getD_getElem?]; exact e3
        refine op_call (f := 12) (args := #[.pointer (some ⟨w.heap.size + 1 + 1, 0, none⟩)]) (R := fun v y => v = .string rs ∧ Below w2.heap.size w2 y) ?_ ((HD.out w2 hC).mono ?_) ?_
        · (clear hV hI hC; go_simp <;> (first | rfl | simp | (rw [IntKind.wrap_i64]; omega)))
        · rintro e y ⟨rfl, hb⟩; exact ⟨_, rfl, rfl, hb⟩
        · rintro v y ⟨rfl, hb⟩; exact ⟨hC.trans (hb.mono hC.size), hb, by intro d hd; cases hd; rfl⟩
      case o15 =>
        intro Q a w2 hC hV hI
        have e14 : a.eval (.tmp 14) = .string rs := hV 14 (by simp [Op.operands]) (by kernel_rfl)
        have f14 : a.tmps.getD 14 undef = .string rs := e14
        have g14 : a.tmps[14]?.getD undef = .string rs := by rw [← Array.getD_eq_getD_getElem?]; exact e14
        refine op_val (.string x15) ?_ hC (Below.refl _ _) (by intro d hd; cases hd; rfl)
        have q := HA15.out w2
        (clear hV hI hC; go_simp <;> (first | rfl | simp | (rw [IntKind.wrap_i64]; omega)))
      case o16 =>
        intro Q a w2 hC hV hI
        have e1 : a.eval (.tmp 1) = .pointer (some ⟨w.heap.size, 0, none⟩) := (hI 1 (by simp [Op.operands]) (by kernel_rfl)).trans rfl
        have f1 : a.tmps.getD 1 undef = .pointer (some ⟨w.heap.size, 0, none⟩) := e1
        have g1 : a.tmps[1]?.getD undef = .pointer (some ⟨w.heap.size, 0, none⟩) := by rw [← Array.getD_eq_getD_getElem?]; exact e1
        refine op_val (.pointer (some ⟨w.heap.size, 6, none⟩)) ?_ hC (Below.refl _ _) (by intro d hd; cases hd; rfl)
        (clear hV hI hC; go_simp <;> (first | rfl | simp | (rw [IntKind.wrap_i64]; omega)))
      case o17 =>
        intro Q a w2 hC hV hI
        have e16 : a.eval (.tmp 16) = .pointer (some ⟨w.heap.size, 6, none⟩) := hV 16 (by simp [Op.operands]) (by kernel_rfl)
        have f16 : a.tmps.getD 16 undef = .pointer (some ⟨w.heap.size, 6, none⟩) := e16
        have g16 : a.tmps[16]?.getD undef = .pointer (some ⟨w.heap.size, 6, none⟩) := by rw [← Array.getD_eq_getD_getElem?]; exact e16
        have hK := KC.out w2 hC
        refine op_val (.string p) ?_ hC (Below.refl _ _) (by intro d hd; cases hd; rfl)
        (clear hV hI hC; go_simp <;> (first | rfl | simp | (rw [IntKind.wrap_i64]; omega)))
      case o18 =>
        intro Q a w2 hC hV hI
        have e15 : a.eval (.tmp 15) = .string x15 := hV 15 (by simp [Op.operands]) (by kernel_rfl)
        have f15 : a.tmps.getD 15 undef = .string x15 := e15
        have g15 : a.tmps[15]?.getD undef = .string x15 := by rw [← Array.getD_eq_getD_getElem?]; exact e15
        have e17 : a.eval (.tmp 17) = .string p := hV 17 (by simp [Op.operands]) (by kernel_rfl)
        have f17 : a.tmps.getD 17 undef = .string p := e17
        have g17 : a.tmps[17]?.getD undef = .string p := by rw [← Array.getD_eq_getD_getElem?]; exact e17
        refine op_val (.string x18) ?_ hC (Below.refl _ _) (by intro d hd; cases hd; rfl)
        have q := HA18.out w2
        (clear hV hI hC; go_simp <;> (first | rfl | simp | (rw [IntKind.wrap_i64]; omega)))
      case o19 =>
        intro Q a w2 hC hV hI
        have e18 : a.eval (.tmp 18) = .string x18 := hV 18 (by simp [Op.operands]) (by kernel_rfl)
        have f18 : a.tmps.getD 18 undef = .string x18 := e18
        have g18 : a.tmps[18]?.getD undef = .string x18 := by rw [← Array.getD_eq_getD_getElem?]; exact e18
        refine op_val (.string x19) ?_ hC (Below.refl _ _) (by intro d hd; cases hd; rfl)
        have q := HA19.out w2
        (clear hV hI hC; go_simp <;> (first | rfl | simp | (rw [IntKind.wrap_i64]; omega)))
      case o20 =>
        intro Q a w2 hC hV hI
        have e1 : a.eval (.tmp 1) = .pointer (some ⟨w.heap.size, 0, none⟩) := (hI 1 (by simp [Op.operands]) (by kernel_rfl)).trans rfl
        have f1 : a.tmps.getD 1 undef = .pointer (some ⟨w.heap.size, 0, none⟩) := e1
        have g1 : a.tmps[1]?.getD undef = .pointer (some ⟨w.heap.size, 0, none⟩) := by rw [← Array.getD_eq_getD_getElem?]; exact e1
        refine op_val (.pointer (some ⟨w.heap.size, 7, none⟩)) ?_ hC (Below.refl _ _) (by intro d hd; cases hd; rfl)
        (clear hV hI hC; go_simp <;> (first | rfl | simp | (rw [IntKind.wrap_i64]; omega)))
      case o21 =>
        intro Q a w2 hC hV hI
        have e20 : a.eval (.tmp 20) = .pointer (some ⟨w.heap.size, 7, none⟩) := hV 20 (by simp [Op.operands]) (by kernel_rfl)
        have f20 : a.tmps.getD 20 undef = .pointer (some ⟨w.heap.size, 7, none⟩) := e20
        have g20 : a.tmps[20]?.getD undef = .pointer (some ⟨w.heap.size, 7, none⟩) := by rw [← Array.getD_eq_getD_getElem?]; exact e20
        have hK := KC.out w2 hC
        refine op_val (.string d) ?_ hC (Below.refl _ _) (by intro d hd; cases hd; rfl)
        (clear hV hI hC; go_simp <;> (first | rfl | simp | (rw [IntKind.wrap_i64]; omega)))
      case o22 =>
        intro Q a w2 hC hV hI
        have e19 : a.eval (.tmp 19) = .string x19 := hV 19 (by simp [Op.operands]) (by kernel_rfl)
        have f19 : a.tmps.getD 19 undef = .string x19 := e19
        have g19 : a.tmps[19]?.getD undef = .string x19 := by rw [← Array.getD_eq_getD_getElem?]; exact e19
        have e21 : a.eval (.tmp 21) = .string d := hV 21 (by simp [Op.operands]) (by kernel_rfl)
        have f21 : a.tmps.getD 21 undef = .string d := e21
        have g21 : a.tmps[21]?.getD undef = .string d := by rw [← Array.getD_eq_getD_getElem?]; exact e21
        refine op_val (.string x22) ?_ hC (Below.refl _ _) (by intro d hd; cases hd; rfl)
        have q := HA22.out w2
        (clear hV hI hC; go_simp <;> (first | rfl | simp | (rw [IntKind.wrap_i64]; omega)))
    case hend =>
      intro f w2 hC hall
      clear HA15 HA18 HA19 HA22
      simp only [List.take_succ_cons, List.take_zero, List.drop_succ_cons, List.drop_zero] at hall ⊢
      simp only [List.forall_mem_cons] at hall
      obtain ⟨h14, h15, h16, h17, h18, h19, h20, h21, h22, _⟩ := hall
      replace h14 : f 14 = .string rs := h14 14 rfl
      replace h15 : f 15 = .string x15 := h15 15 rfl
      replace h16 : f 16 = .pointer (some ⟨w.heap.size, 6, none⟩) := h16 16 rfl
      replace h17 : f 17 = .string p := h17 17 rfl
      replace h18 : f 18 = .string x18 := h18 18 rfl
      replace h19 : f 19 = .string x19 := h19 19 rfl
      replace h20 : f 20 = .pointer (some ⟨w.heap.size, 7, none⟩) := h20 20 rfl
      replace h21 : f 21 = .string d := h21 21 rfl
      replace h22 : f 22 = .string x22 := h22 22 rfl
      simp only [putAll, Act.put, List.setIfInBounds_toArray, List.set_cons_succ, List.set_cons_zero, h14, h15, h16, h17, h18, h19, h20, h21, h22]
      clear h14 h15 h16 h17 h18 h19 h20 h21 h22
      have XT2 := (hC.block (w.heap.size + 1) (by omega)).trans XT.out
      have hx : w2.cell? ⟨w.heap.size + 1, 0, none⟩ = some (.string ⟨#[]⟩) := by simp [World.cell?, XT2]
      have hz : w2.frozen? ⟨w.heap.size + 1, 0, none⟩ = false := by simp [World.frozen?, XT2]
      have B2 := B1.out.trans (hC.mono (by omega))
      have hlt2 : w.heap.size + 1 < w2.heap.size := by have := hC.size; omega
      have HX : Hid (r = x22) := Lib.hid (by rw [HF.out, HX22.out, HX19.out, HX18.out, HX15.out])
      clear KC hC XT2
      go_wp2
      refine leaves_cons (f := 10) (args := #[.pointer (some ⟨w.heap.size + 1, 0, none⟩)]) (by simp) (by simp [go_sem]) ?_
      refine (put_idle (w.heap.size + 1) _).mono ?_
      rintro e u' w3 ⟨rfl, rfl, hb⟩
      have hx3 : w3.cell? ⟨w.heap.size + 1, 0, none⟩ = some (.string x22) := (hb.cell (p := ⟨w.heap.size + 1, 0, none⟩) (by first | exact hlt2 | simpa using hlt2)).trans (by first | exact World.cell?_setCell_same hx _ | exact World.cell?_setCell_same _ _ _ hx | simp [go_sem, hx])
      have B3 : Below w.heap.size w w3 := (B2.setCell (p := ⟨w.heap.size + 1, 0, none⟩) (by simp) _).trans (hb.mono (by first | exact B2.size | simpa using B2.size))
      simp [Leaves, settle, results, Tryd.results7, go_sem, hx3, HX.out]
      exact B3
end Go.Proofs.YtpimeekcnndhiaaDoor
